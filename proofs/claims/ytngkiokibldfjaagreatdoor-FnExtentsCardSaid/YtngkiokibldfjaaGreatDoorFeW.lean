import Derived.Test.YtngkiokibldfjaaGreatDoorFeK
import Derived.Test.YtngkiokibldfjaaGreatDoorDrawRx
import Derived.Test.YtngkiokibldfjaaGreatDoorFeR
import Derived.BigQuiet
import Derived.Deep.CutBlock
import Derived.Deep.CutRange
namespace Go.Proofs.YtngkiokibldfjaaGreatDoor
open Go.RowKit
set_option linter.unusedVariables false
/-! FnExtents: the law's walk. -/
theorem xoOk_sz {L : List Op} (h : XoOk L) (k : Nat) (hk : k < L.length) : (L.getD k opZ).ky.size ≤ 1048576 ∧ (L.getD k opZ).dt.size ≤ 1048576 := by
  have e : L.getD k opZ = L[k] := by rw [List.getD_eq_getElem?_getD, List.getElem?_eq_getElem hk]; rfl
  rw [e]
  have := h _ (List.getElem_mem hk)
  omega
theorem OwnOp.exsN {w : World} {B n c : Nat} {a : Option Addr} {L : List Op} (h : OwnOp w B (.slice a n c) L) (hn : L.length = n) : Exs w a n c (fun k => L.getD k opZ) := by
  subst hn
  exact h.exs _ (Nat.le_refl _)
theorem key_le (d : ByteArray) (k : Nat) : (keyAt d (sc d 0) k).size ≤ d.size := by
  unfold keyAt rcK
  split
  · exact Nat.zero_le _
  · rw [ByteArray.size_extract]; omega
set_option maxRecDepth 20000 in
set_option maxHeartbeats 8000000 in
theorem fnExtents_core (ea eb : Addr) (w : World) (a0 : Option Addr) (len0 cap0 : Nat) (hc0 : CodeOk w a0 len0) (hl0 : len0 ≤ cap0) (hE : Errs w ea eb) (hT : TB w) :
    Calls Tryz.prog 4 #[.slice a0 len0 cap0] w fun e w' => e = .returned (.bool true) ∧ Below w.heap.size w w' := by
  have b0 := hc0.1
  have d0 : decide ((1048576 : Int) < (len0 : Int)) = false := by simp; omega
  have KD := hid (drawRX_all w a0 len0 cap0 hc0 hl0)
  have HE := hid hE
  have HT := hid hT
  clear hc0 b0 hE hT
  go_enter Tryz.func4, Tryz.ntmps4
  go_upto_region 3 with fail
  clear d0
  go_wp2_with fail
  refine KD.out.mono ?_
  rintro e w1 ⟨⟨d, s, v, L, rfl, hd, hO, hL, hX⟩, hb1⟩
  obtain ⟨av, cv, hv⟩ := hO.slice
  subst hv
  have SZ := hid (xoOk_sz hX)
  obtain ⟨nL, hnL⟩ : ∃ n, n = L.length := ⟨_, rfl⟩
  obtain ⟨W1, hW1⟩ : ∃ W, W = w1.alloc (.cells #[.string d, .int .i64 s] 30) := ⟨_, rfl⟩
  have bW1 : Below w1.heap.size w1 W1 := by rw [hW1]; exact (Below.refl _ _).alloc (Nat.le_refl _) _
  obtain ⟨X3, hX3⟩ : ∃ x, x = w1.heap.size := ⟨_, rfl⟩
  have R3 : Hid (RowAt W1 X3 30 #[.string d, .int .i64 s]) := by rw [hW1, hX3]; exact RowAt.new _ _ _
  have B1 : Hid (Below w.heap.size w W1) := hb1.trans (bW1.mono hb1.size)
  have O1 : Hid (Exs W1 av nL cv (fun k => L.getD k opZ)) := by rw [hnL]; exact (hO.below bW1).exs _ (Nat.le_refl _)
  have KI := hid (iRunE ea eb d s L av cv SZ.out W1 (HE.out.below B1.out) (HT.out.below B1.out) (by rw [← hnL]; exact O1.out))
  have KS := fun wx (h : Below W1.heap.size W1 wx) => hid (sRunE d s L av cv SZ.out wx (by rw [← hnL]; exact O1.out.below h))
  rw [← hnL] at KI
  rw [← hnL] at KS
  obtain ⟨RR, hRR⟩ : ∃ r, r = rRes d s L := ⟨_, rfl⟩
  have ROK := hid (fun h => rRes_ok (d := d) (s := s) (L := L) h)
  have RLN : RR.2.length ≤ 2000 := by rw [hRR]; exact rRes_len
  have RKS : Hid (∀ x ∈ RR.2, x.ks.length ≤ 100) := by rw [hRR]; exact rRes_ks
  rw [← hRR] at KI KS ROK
  obtain ⟨⟨D1, S1⟩, LO⟩ := RR
  simp only at KI KS ROK RLN RKS
  rw [← hnL]
  have HW1 := hid hW1
  have HX3 := hid hX3
  clear hb1 hO hL hX hnL hW1 hX3 bW1 KD hRR SZ O1
  go_upto_region 4 with ((refine wpList_store_row rfl 30 (.tmp 3) (.tmp 20) rfl w1.heap.size #[.string d, .int .i64 s] rfl rfl _ _ (RowAt.new w1 _ _) (by kernel_rfl) rfl (by simp [Value.oneCell']) ?_); rw [World.setRow_alloc_new])
  rw [← HW1.out, ← HX3.out]
  clear HW1 HX3
  have x0 := R3.out.cell 0
  have x1 := R3.out.cell 1
  obtain ⟨nO, hnO⟩ : ∃ n, n = LO.length := ⟨_, rfl⟩
  go_wp2_with (first | (refine KI.out.mono ?_) | go_in)
  rintro e w2 ⟨⟨a5, c5, O5, rfl, hm5, ho5, hs5⟩, hb2⟩
  rw [← hnO] at ho5
  obtain ⟨W2, hW2⟩ : ∃ W, W = w2.alloc (.cells #[.string D1, .int .i64 S1, .slice a5 nO c5] 33) := ⟨_, rfl⟩
  obtain ⟨X5, hX5⟩ : ∃ x, x = w2.heap.size := ⟨_, rfl⟩
  have bW2 : Below w2.heap.size w2 W2 := by rw [hW2]; exact (Below.refl _ _).alloc (Nat.le_refl _) _
  have b12 : Below W1.heap.size W1 W2 := hb2.trans (bW2.mono hb2.size)
  have R5 : Hid (RowAt W2 X5 33 #[.string D1, .int .i64 S1, .slice a5 nO c5]) := by rw [hW2, hX5]; exact RowAt.new _ _ _
  have M5 := hid hm5
  have OO5 : Hid (W2.ownsRow w.heap.size 36 4 (.slice a5 nO c5) O5.length (xoL O5)) := orBase (orKeep ho5 fun g cs _ r => r.below bW2 r.lt) B1.out.size
  have OS5 : Hid (∀ p ∈ O5, OwnStrs W2 w.heap.size p.2 p.1.ks) := fun p hp => orBase (orKeep (hs5 p hp) fun g cs _ r => r.below bW2 r.lt) B1.out.size
  have B2 := hid (B1.out.trans (b12.mono B1.out.size))
  have R32 := R3.out.below b12 R3.out.lt
  have K6 := KS W2 b12
  have HW2 := hid hW2
  have HX5 := hid hX5
  have NO : Hid (nO = LO.length) := hnO
  have y0 := R32.cell 0
  have y1 := R32.cell 1
  clear hm5 ho5 hs5 hb2 hW2 hX5 bW2 b12 KI KS R3 B1 x0 x1 R32
  rw [← NO.out]
  clear hnO
  go_upto_region 5 with ((refine wpList_store_row rfl 33 (.tmp 5) (.tmp 24) rfl w2.heap.size #[.string D1, .int .i64 S1, .slice a5 nO c5] rfl rfl _ _ (RowAt.new w2 _ _) (by kernel_rfl) rfl (by simp [Value.oneCell']) ?_); rw [World.setRow_alloc_new])
  rw [← HW2.out, ← HX5.out]
  clear HW2 HX5
  go_wp2_with (first | (refine K6.out.mono ?_) | go_in)
  rintro e w3 ⟨⟨a6, c6, O6, rfl, hm6, ho6, hs6⟩, hb3⟩
  rw [← NO.out] at ho6
  obtain ⟨W3, hW3⟩ : ∃ W, W = w3.alloc (.cells #[.string D1, .int .i64 S1, .slice a6 nO c6] 33) := ⟨_, rfl⟩
  obtain ⟨X6, hX6⟩ : ∃ x, x = w3.heap.size := ⟨_, rfl⟩
  have bW3 : Below w3.heap.size w3 W3 := by rw [hW3]; exact (Below.refl _ _).alloc (Nat.le_refl _) _
  have b23 : Below W2.heap.size W2 W3 := hb3.trans (bW3.mono hb3.size)
  have R6 : Hid (RowAt W3 X6 33 #[.string D1, .int .i64 S1, .slice a6 nO c6]) := by rw [hW3, hX6]; exact RowAt.new _ _ _
  have M6 := hid hm6
  have OO6 : Hid (W3.ownsRow w.heap.size 36 4 (.slice a6 nO c6) O6.length (xoL O6)) := orBase (orKeep ho6 fun g cs _ r => r.below bW3 r.lt) B2.out.size
  have OS6 : Hid (∀ p ∈ O6, OwnStrs W3 w.heap.size p.2 p.1.ks) := fun p hp => orBase (orKeep (hs6 p hp) fun g cs _ r => r.below bW3 r.lt) B2.out.size
  have Q5 := hid (R5.out.below b23 R5.out.lt)
  have OQ5 : Hid (W3.ownsRow w.heap.size 36 4 (.slice a5 nO c5) O5.length (xoL O5)) := orKeep OO5.out fun g cs _ r => r.below b23 r.lt
  have OT5 : Hid (∀ p ∈ O5, OwnStrs W3 w.heap.size p.2 p.1.ks) := fun p hp => (OS5.out p hp).below b23
  have B3 := hid (B2.out.trans (b23.mono B2.out.size))
  have HW3 := hid hW3
  have HX6 := hid hX6
  clear hm6 ho6 hs6 hb3 hW3 hX6 bW3 b23 K6 y0 y1 R5 OO5 OS5 B2
  rw [← NO.out]
  go_upto_region 6 with ((refine wpList_store_row rfl 33 (.tmp 6) (.tmp 27) rfl w3.heap.size #[.string D1, .int .i64 S1, .slice a6 nO c6] rfl rfl _ _ (RowAt.new w3 _ _) (by kernel_rfl) rfl (by simp [Value.oneCell']) ?_); rw [World.setRow_alloc_new])
  rw [← HW3.out, ← HX6.out]
  clear HW3 HX6
  have x50 := Q5.out.cell 0
  have x51 := Q5.out.cell 1
  have x52 := Q5.out.cell 2
  have x60 := R6.out.cell 0
  have x61 := R6.out.cell 1
  have x62 := R6.out.cell 2
  go_wp2_with fail
  clear x50 x51 x60 x61
  go_loopw [7] (fun y7 wr => ∃ i : Nat, i ≤ nO ∧ y7 = .int .i64 (i : Int) ∧ Below W3.heap.size W3 wr) (fun y7 _ => nO - (intOf y7).toNat)
  case atStart => exact ⟨0, Nat.zero_le _, rfl, Below.refl _ _⟩
  case round =>
    obtain ⟨i, hi, rfl, hB⟩ := hrel
    obtain ⟨WR, rfl⟩ : ∃ v, v = wr := ⟨_, rfl⟩
    have BR := hid hB
    have x52 := (Q5.out.below BR.out Q5.out.lt).cell 2
    have x62 := (R6.out.below BR.out R6.out.lt).cell 2
    have nob : nO ≤ 2000 := by rw [NO.out]; exact RLN
    clear hB
    by_cases hlt : i < nO
    · have hlt' : (i : Int) < (nO : Int) := by omega
      have i0 : (0 : Int) ≤ (i : Int) := by omega
      have HI := hid (show i + 1 ≤ nO by omega)
      obtain ⟨g5, x, k5, kc5, rfl, hg5, hx5, p0, p1, p2, p3, hS5⟩ := outE_at OQ5.out OT5.out M5.out (P := i) (by rw [← NO.out]; exact hlt)
      obtain ⟨g6, x6, k6, kc6, rfl, hg6, hx6, q0, q1, q2, q3, hS6⟩ := outE_at OO6.out OS6.out M6.out (P := i) (by rw [← NO.out]; exact hlt)
      have ex : x6 = x := Option.some.inj (hx6.symm.trans hx5)
      subst ex
      obtain ⟨xc, xd, xk, xh⟩ := x6
      simp only at p0 p1 p2 p3 q0 q1 q2 q3 hS5 hS6
      obtain ⟨nk, hnk⟩ : ∃ n, n = xk.length := ⟨_, rfl⟩
      rw [← hnk] at p2 q2 hS5 hS6
      have NK : nk ≤ 1048576 := by have := RKS.out _ (List.mem_of_getElem? hx5); rw [hnk]; exact Nat.le_trans this (by decide)
      have KT := fun wx (h : Below W3.heap.size W3 wx) => hid (lwTexts_eqX k5 nk kc5 k6 kc6 (fun i => xk.getD i ⟨#[]⟩) wx (hS5.below h) (hS6.below h) NK)
      have CA := hid (show ∀ wx, Below W3.heap.size W3 wx → (wx.cell? ⟨X5, 2, none⟩ = some (.slice (some ⟨g5, 0, none⟩) nO c5) ∧ wx.cell? ⟨X6, 2, none⟩ = some (.slice (some ⟨g6, 0, none⟩) nO c6) ∧ wx.cell? ⟨g5, i * 4, none⟩ = some (.int .i64 xc) ∧ wx.cell? ⟨g5, i * 4 + 1, none⟩ = some (.string xd) ∧ wx.cell? ⟨g5, i * 4 + 2, none⟩ = some (.slice k5 nk kc5) ∧ wx.cell? ⟨g5, i * 4 + 3, none⟩ = some (.int .i64 xh) ∧ wx.cell? ⟨g6, i * 4, none⟩ = some (.int .i64 xc) ∧ wx.cell? ⟨g6, i * 4 + 1, none⟩ = some (.string xd) ∧ wx.cell? ⟨g6, i * 4 + 2, none⟩ = some (.slice k6 nk kc6) ∧ wx.cell? ⟨g6, i * 4 + 3, none⟩ = some (.int .i64 xh)) ∧ Below W3.heap.size W3 wx from fun wx hb => by
        have r5 := (Q5.out.below hb Q5.out.lt).cell 2
        have r6 := (R6.out.below hb R6.out.lt).cell 2
        have c5 := fun j => hb.cell (p := ⟨g5, j, none⟩) hg5
        have c6 := fun j => hb.cell (p := ⟨g6, j, none⟩) hg6
        exact ⟨⟨r5, r6, (c5 _).trans p0, (c5 _).trans p1, (c5 _).trans p2, (c5 _).trans p3, (c6 _).trans q0, (c6 _).trans q1, (c6 _).trans q2, (c6 _).trans q3⟩, hb⟩)
      clear hx5 hx6 p0 p1 p2 p3 q0 q1 q2 q3 hS5 hS6 hnk hg5 hg6
      go_upto_region 11 with fail
      clear x52 x62
      refine wp_region_held_drew (S := fun wx => (wx.cell? ⟨X5, 2, none⟩ = some (.slice (some ⟨g5, 0, none⟩) nO c5) ∧ wx.cell? ⟨X6, 2, none⟩ = some (.slice (some ⟨g6, 0, none⟩) nO c6) ∧ wx.cell? ⟨g5, i * 4, none⟩ = some (.int .i64 xc) ∧ wx.cell? ⟨g5, i * 4 + 1, none⟩ = some (.string xd) ∧ wx.cell? ⟨g5, i * 4 + 2, none⟩ = some (.slice k5 nk kc5) ∧ wx.cell? ⟨g5, i * 4 + 3, none⟩ = some (.int .i64 xh) ∧ wx.cell? ⟨g6, i * 4, none⟩ = some (.int .i64 xc) ∧ wx.cell? ⟨g6, i * 4 + 1, none⟩ = some (.string xd) ∧ wx.cell? ⟨g6, i * 4 + 2, none⟩ = some (.slice k6 nk kc6) ∧ wx.cell? ⟨g6, i * 4 + 3, none⟩ = some (.int .i64 xh)) ∧ Below W3.heap.size W3 wx) (by kernel_rfl) ?_ (fun hHeld => ?_)
      · exact CA.out _ BR.out.drew
      refine wpAnyH_take (i := 0) (oi := { dst := some 49, op := Op.fieldAddr 33 (Operand.tmp 5) 1, type := 0, pos := "laws.go:519", after := #[], guard := none }) (v := ?v1x0) rfl (by kernel_rfl) (by kernel_rfl) (by kernel_rfl) (fun _ _ _ h => h) (Or.inl ⟨by rfl, ?hy1x0⟩) hHeld ?rest1x0
      case hy1x0 => (intro w hSw; (try dsimp only at hSw); go_simp; try with_reducible rfl)
      simp only [Act.put, List.setIfInBounds_toArray, List.set_cons_zero, List.set_cons_succ]
      refine wpAnyH_take (i := 1) (oi := { dst := some 50, op := Op.load 31 (Operand.tmp 49), type := 31, pos := "laws.go:519", after := #[{ on := 0, ground := Ground.data }], guard := none }) (v := ?v1x1) rfl (by kernel_rfl) (by kernel_rfl) (by kernel_rfl) (fun _ _ _ h => h) (Or.inl ⟨by rfl, ?hy1x1⟩) hHeld ?rest1x1
      case hy1x1 => (intro w hSw; (try dsimp only at hSw); go_simp; try with_reducible rfl)
      simp only [Act.put, List.setIfInBounds_toArray, List.set_cons_zero, List.set_cons_succ]
      refine wpAnyH_take (i := 2) (oi := { dst := some 51, op := Op.move (Operand.tmp 7), type := 3, pos := "laws.go:519", after := #[], guard := none }) (v := ?v1x2) rfl (by kernel_rfl) (by kernel_rfl) (by kernel_rfl) (fun _ _ _ h => h) (Or.inl ⟨by rfl, ?hy1x2⟩) hHeld ?rest1x2
      case hy1x2 => (intro w hSw; (try dsimp only at hSw); go_simp; try with_reducible rfl)
      simp only [Act.put, List.setIfInBounds_toArray, List.set_cons_zero, List.set_cons_succ]
      refine wpAnyH_take (i := 3) (oi := { dst := some 52, op := Op.indexAddr 31 (Operand.tmp 50) (Operand.tmp 51), type := 0, pos := "laws.go:519", after := #[{ on := 1, ground := Ground.data }, { on := 2, ground := Ground.data }], guard := none }) (v := ?v1x3) rfl (by kernel_rfl) (by kernel_rfl) (by kernel_rfl) (fun _ _ _ h => h) (Or.inl ⟨by rfl, ?hy1x3⟩) hHeld ?rest1x3
      case hy1x3 => (intro w hSw; (try dsimp only at hSw); go_simp; try with_reducible rfl)
      simp only [Act.put, List.setIfInBounds_toArray, List.set_cons_zero, List.set_cons_succ]
      refine wpAnyH_take (i := 4) (oi := { dst := some 53, op := Op.fieldAddr 36 (Operand.tmp 52) 0, type := 0, pos := "laws.go:519", after := #[{ on := 3, ground := Ground.data }], guard := none }) (v := ?v1x4) rfl (by kernel_rfl) (by kernel_rfl) (by kernel_rfl) (fun _ _ _ h => h) (Or.inl ⟨by rfl, ?hy1x4⟩) hHeld ?rest1x4
      case hy1x4 => (intro w hSw; (try dsimp only at hSw); go_simp; try with_reducible rfl)
      simp only [Act.put, List.setIfInBounds_toArray, List.set_cons_zero, List.set_cons_succ]
      refine wpAnyH_take (i := 5) (oi := { dst := some 54, op := Op.load 2 (Operand.tmp 53), type := 2, pos := "laws.go:519", after := #[{ on := 4, ground := Ground.data }], guard := none }) (v := ?v1x5) rfl (by kernel_rfl) (by kernel_rfl) (by kernel_rfl) (fun _ _ _ h => h) (Or.inl ⟨by rfl, ?hy1x5⟩) hHeld ?rest1x5
      case hy1x5 => (intro w hSw; (try dsimp only at hSw); go_simp; try with_reducible rfl)
      simp only [Act.put, List.setIfInBounds_toArray, List.set_cons_zero, List.set_cons_succ]
      refine wpAnyH_take (i := 6) (oi := { dst := some 55, op := Op.fieldAddr 33 (Operand.tmp 6) 1, type := 0, pos := "laws.go:519", after := #[], guard := none }) (v := ?v1x6) rfl (by kernel_rfl) (by kernel_rfl) (by kernel_rfl) (fun _ _ _ h => h) (Or.inl ⟨by rfl, ?hy1x6⟩) hHeld ?rest1x6
      case hy1x6 => (intro w hSw; (try dsimp only at hSw); go_simp; try with_reducible rfl)
      simp only [Act.put, List.setIfInBounds_toArray, List.set_cons_zero, List.set_cons_succ]
      refine wpAnyH_take (i := 7) (oi := { dst := some 56, op := Op.load 31 (Operand.tmp 55), type := 31, pos := "laws.go:519", after := #[{ on := 6, ground := Ground.data }], guard := none }) (v := ?v1x7) rfl (by kernel_rfl) (by kernel_rfl) (by kernel_rfl) (fun _ _ _ h => h) (Or.inl ⟨by rfl, ?hy1x7⟩) hHeld ?rest1x7
      case hy1x7 => (intro w hSw; (try dsimp only at hSw); go_simp; try with_reducible rfl)
      simp only [Act.put, List.setIfInBounds_toArray, List.set_cons_zero, List.set_cons_succ]
      refine wpAnyH_take (i := 8) (oi := { dst := some 57, op := Op.move (Operand.tmp 7), type := 3, pos := "laws.go:519", after := #[], guard := none }) (v := ?v1x8) rfl (by kernel_rfl) (by kernel_rfl) (by kernel_rfl) (fun _ _ _ h => h) (Or.inl ⟨by rfl, ?hy1x8⟩) hHeld ?rest1x8
      case hy1x8 => (intro w hSw; (try dsimp only at hSw); go_simp; try with_reducible rfl)
      simp only [Act.put, List.setIfInBounds_toArray, List.set_cons_zero, List.set_cons_succ]
      refine wpAnyH_take (i := 9) (oi := { dst := some 58, op := Op.indexAddr 31 (Operand.tmp 56) (Operand.tmp 57), type := 0, pos := "laws.go:519", after := #[{ on := 7, ground := Ground.data }, { on := 8, ground := Ground.data }], guard := none }) (v := ?v1x9) rfl (by kernel_rfl) (by kernel_rfl) (by kernel_rfl) (fun _ _ _ h => h) (Or.inl ⟨by rfl, ?hy1x9⟩) hHeld ?rest1x9
      case hy1x9 => (intro w hSw; (try dsimp only at hSw); go_simp; try with_reducible rfl)
      simp only [Act.put, List.setIfInBounds_toArray, List.set_cons_zero, List.set_cons_succ]
      refine wpAnyH_take (i := 10) (oi := { dst := some 59, op := Op.fieldAddr 36 (Operand.tmp 58) 0, type := 0, pos := "laws.go:519", after := #[{ on := 9, ground := Ground.data }], guard := none }) (v := ?v1x10) rfl (by kernel_rfl) (by kernel_rfl) (by kernel_rfl) (fun _ _ _ h => h) (Or.inl ⟨by rfl, ?hy1x10⟩) hHeld ?rest1x10
      case hy1x10 => (intro w hSw; (try dsimp only at hSw); go_simp; try with_reducible rfl)
      simp only [Act.put, List.setIfInBounds_toArray, List.set_cons_zero, List.set_cons_succ]
      refine wpAnyH_take (i := 11) (oi := { dst := some 60, op := Op.load 2 (Operand.tmp 59), type := 2, pos := "laws.go:519", after := #[{ on := 10, ground := Ground.data }], guard := none }) (v := ?v1x11) rfl (by kernel_rfl) (by kernel_rfl) (by kernel_rfl) (fun _ _ _ h => h) (Or.inl ⟨by rfl, ?hy1x11⟩) hHeld ?rest1x11
      case hy1x11 => (intro w hSw; (try dsimp only at hSw); go_simp; try with_reducible rfl)
      simp only [Act.put, List.setIfInBounds_toArray, List.set_cons_zero, List.set_cons_succ]
      refine wpAnyH_take (i := 12) (oi := { dst := some 61, op := Op.binOp BinOp.neq 2 (Operand.tmp 54) (Operand.tmp 60) 2, type := 4, pos := "laws.go:519", after := #[{ on := 5, ground := Ground.data }, { on := 11, ground := Ground.data }], guard := none }) (v := ?v1x12) rfl (by kernel_rfl) (by kernel_rfl) (by kernel_rfl) (fun _ _ _ h => h) (Or.inl ⟨by rfl, ?hy1x12⟩) hHeld ?rest1x12
      case hy1x12 => (intro w hSw; (try dsimp only at hSw); go_simp; try with_reducible rfl)
      simp only [Act.put, List.setIfInBounds_toArray, List.set_cons_zero, List.set_cons_succ]
      refine wpAnyH_take (i := 13) (oi := { dst := some 62, op := Op.move (Operand.tmp 61), type := 4, pos := "laws.go:519", after := #[{ on := 12, ground := Ground.data }], guard := none }) (v := ?v1x13) rfl (by kernel_rfl) (by kernel_rfl) (by kernel_rfl) (fun _ _ _ h => h) (Or.inl ⟨by rfl, ?hy1x13⟩) hHeld ?rest1x13
      case hy1x13 => (intro w hSw; (try dsimp only at hSw); go_simp; try with_reducible rfl)
      simp only [Act.put, List.setIfInBounds_toArray, List.set_cons_zero, List.set_cons_succ]
      refine wpAnyH_take (i := 14) (oi := { dst := some 63, op := Op.fieldAddr 33 (Operand.tmp 5) 1, type := 0, pos := "laws.go:519", after := #[{ on := 13, ground := Ground.guard }], guard := some (13, false) }) (v := ?v1x14) rfl (by kernel_rfl) (by kernel_rfl) (by kernel_rfl) (fun _ _ _ h => h) (Or.inl ⟨by rfl, ?hy1x14⟩) hHeld ?rest1x14
      case hy1x14 => (intro w hSw; (try dsimp only at hSw); go_simp; try with_reducible rfl)
      simp only [Act.put, List.setIfInBounds_toArray, List.set_cons_zero, List.set_cons_succ]
      refine wpAnyH_take (i := 15) (oi := { dst := some 64, op := Op.load 31 (Operand.tmp 63), type := 31, pos := "laws.go:519", after := #[{ on := 14, ground := Ground.data }, { on := 13, ground := Ground.guard }], guard := some (13, false) }) (v := ?v1x15) rfl (by kernel_rfl) (by kernel_rfl) (by kernel_rfl) (fun _ _ _ h => h) (Or.inl ⟨by rfl, ?hy1x15⟩) hHeld ?rest1x15
      case hy1x15 => (intro w hSw; (try dsimp only at hSw); go_simp; try with_reducible rfl)
      simp only [Act.put, List.setIfInBounds_toArray, List.set_cons_zero, List.set_cons_succ]
      refine wpAnyH_take (i := 16) (oi := { dst := some 65, op := Op.move (Operand.tmp 7), type := 3, pos := "laws.go:519", after := #[{ on := 13, ground := Ground.guard }], guard := some (13, false) }) (v := ?v1x16) rfl (by kernel_rfl) (by kernel_rfl) (by kernel_rfl) (fun _ _ _ h => h) (Or.inl ⟨by rfl, ?hy1x16⟩) hHeld ?rest1x16
      case hy1x16 => (intro w hSw; (try dsimp only at hSw); go_simp; try with_reducible rfl)
      simp only [Act.put, List.setIfInBounds_toArray, List.set_cons_zero, List.set_cons_succ]
      refine wpAnyH_take (i := 17) (oi := { dst := some 66, op := Op.indexAddr 31 (Operand.tmp 64) (Operand.tmp 65), type := 0, pos := "laws.go:519", after := #[{ on := 15, ground := Ground.data }, { on := 16, ground := Ground.data }, { on := 13, ground := Ground.guard }], guard := some (13, false) }) (v := ?v1x17) rfl (by kernel_rfl) (by kernel_rfl) (by kernel_rfl) (fun _ _ _ h => h) (Or.inl ⟨by rfl, ?hy1x17⟩) hHeld ?rest1x17
      case hy1x17 => (intro w hSw; (try dsimp only at hSw); go_simp; try with_reducible rfl)
      simp only [Act.put, List.setIfInBounds_toArray, List.set_cons_zero, List.set_cons_succ]
      refine wpAnyH_take (i := 18) (oi := { dst := some 67, op := Op.fieldAddr 36 (Operand.tmp 66) 1, type := 0, pos := "laws.go:519", after := #[{ on := 17, ground := Ground.data }, { on := 13, ground := Ground.guard }], guard := some (13, false) }) (v := ?v1x18) rfl (by kernel_rfl) (by kernel_rfl) (by kernel_rfl) (fun _ _ _ h => h) (Or.inl ⟨by rfl, ?hy1x18⟩) hHeld ?rest1x18
      case hy1x18 => (intro w hSw; (try dsimp only at hSw); go_simp; try with_reducible rfl)
      simp only [Act.put, List.setIfInBounds_toArray, List.set_cons_zero, List.set_cons_succ]
      refine wpAnyH_take (i := 19) (oi := { dst := some 68, op := Op.load 9 (Operand.tmp 67), type := 9, pos := "laws.go:519", after := #[{ on := 18, ground := Ground.data }, { on := 13, ground := Ground.guard }], guard := some (13, false) }) (v := ?v1x19) rfl (by kernel_rfl) (by kernel_rfl) (by kernel_rfl) (fun _ _ _ h => h) (Or.inl ⟨by rfl, ?hy1x19⟩) hHeld ?rest1x19
      case hy1x19 => (intro w hSw; (try dsimp only at hSw); go_simp; try with_reducible rfl)
      simp only [Act.put, List.setIfInBounds_toArray, List.set_cons_zero, List.set_cons_succ]
      refine wpAnyH_take (i := 20) (oi := { dst := some 69, op := Op.fieldAddr 33 (Operand.tmp 6) 1, type := 0, pos := "laws.go:519", after := #[{ on := 13, ground := Ground.guard }], guard := some (13, false) }) (v := ?v1x20) rfl (by kernel_rfl) (by kernel_rfl) (by kernel_rfl) (fun _ _ _ h => h) (Or.inl ⟨by rfl, ?hy1x20⟩) hHeld ?rest1x20
      case hy1x20 => (intro w hSw; (try dsimp only at hSw); go_simp; try with_reducible rfl)
      simp only [Act.put, List.setIfInBounds_toArray, List.set_cons_zero, List.set_cons_succ]
      refine wpAnyH_take (i := 21) (oi := { dst := some 70, op := Op.load 31 (Operand.tmp 69), type := 31, pos := "laws.go:519", after := #[{ on := 20, ground := Ground.data }, { on := 13, ground := Ground.guard }], guard := some (13, false) }) (v := ?v1x21) rfl (by kernel_rfl) (by kernel_rfl) (by kernel_rfl) (fun _ _ _ h => h) (Or.inl ⟨by rfl, ?hy1x21⟩) hHeld ?rest1x21
      case hy1x21 => (intro w hSw; (try dsimp only at hSw); go_simp; try with_reducible rfl)
      simp only [Act.put, List.setIfInBounds_toArray, List.set_cons_zero, List.set_cons_succ]
      refine wpAnyH_take (i := 22) (oi := { dst := some 71, op := Op.move (Operand.tmp 7), type := 3, pos := "laws.go:519", after := #[{ on := 13, ground := Ground.guard }], guard := some (13, false) }) (v := ?v1x22) rfl (by kernel_rfl) (by kernel_rfl) (by kernel_rfl) (fun _ _ _ h => h) (Or.inl ⟨by rfl, ?hy1x22⟩) hHeld ?rest1x22
      case hy1x22 => (intro w hSw; (try dsimp only at hSw); go_simp; try with_reducible rfl)
      simp only [Act.put, List.setIfInBounds_toArray, List.set_cons_zero, List.set_cons_succ]
      refine wpAnyH_take (i := 23) (oi := { dst := some 72, op := Op.indexAddr 31 (Operand.tmp 70) (Operand.tmp 71), type := 0, pos := "laws.go:519", after := #[{ on := 21, ground := Ground.data }, { on := 22, ground := Ground.data }, { on := 13, ground := Ground.guard }], guard := some (13, false) }) (v := ?v1x23) rfl (by kernel_rfl) (by kernel_rfl) (by kernel_rfl) (fun _ _ _ h => h) (Or.inl ⟨by rfl, ?hy1x23⟩) hHeld ?rest1x23
      case hy1x23 => (intro w hSw; (try dsimp only at hSw); go_simp; try with_reducible rfl)
      simp only [Act.put, List.setIfInBounds_toArray, List.set_cons_zero, List.set_cons_succ]
      refine wpAnyH_take (i := 24) (oi := { dst := some 73, op := Op.fieldAddr 36 (Operand.tmp 72) 1, type := 0, pos := "laws.go:519", after := #[{ on := 23, ground := Ground.data }, { on := 13, ground := Ground.guard }], guard := some (13, false) }) (v := ?v1x24) rfl (by kernel_rfl) (by kernel_rfl) (by kernel_rfl) (fun _ _ _ h => h) (Or.inl ⟨by rfl, ?hy1x24⟩) hHeld ?rest1x24
      case hy1x24 => (intro w hSw; (try dsimp only at hSw); go_simp; try with_reducible rfl)
      simp only [Act.put, List.setIfInBounds_toArray, List.set_cons_zero, List.set_cons_succ]
      refine wpAnyH_take (i := 25) (oi := { dst := some 74, op := Op.load 9 (Operand.tmp 73), type := 9, pos := "laws.go:519", after := #[{ on := 24, ground := Ground.data }, { on := 13, ground := Ground.guard }], guard := some (13, false) }) (v := ?v1x25) rfl (by kernel_rfl) (by kernel_rfl) (by kernel_rfl) (fun _ _ _ h => h) (Or.inl ⟨by rfl, ?hy1x25⟩) hHeld ?rest1x25
      case hy1x25 => (intro w hSw; (try dsimp only at hSw); go_simp; try with_reducible rfl)
      simp only [Act.put, List.setIfInBounds_toArray, List.set_cons_zero, List.set_cons_succ]
      refine wpAnyH_take (i := 26) (oi := { dst := some 75, op := Op.binOp BinOp.neq 9 (Operand.tmp 68) (Operand.tmp 74) 9, type := 4, pos := "laws.go:519", after := #[{ on := 19, ground := Ground.data }, { on := 25, ground := Ground.data }, { on := 13, ground := Ground.guard }], guard := some (13, false) }) (v := ?v1x26) rfl (by kernel_rfl) (by kernel_rfl) (by kernel_rfl) (fun _ _ _ h => h) (Or.inl ⟨by rfl, ?hy1x26⟩) hHeld ?rest1x26
      case hy1x26 => (intro w hSw; (try dsimp only at hSw); go_simp; try with_reducible rfl)
      simp only [Act.put, List.setIfInBounds_toArray, List.set_cons_zero, List.set_cons_succ]
      refine wpAnyH_take (i := 27) (oi := { dst := some 76, op := Op.pick (Operand.tmp 62) (Operand.const (Value.bool true)) (Operand.tmp 75), type := 4, pos := "laws.go:519", after := #[{ on := 13, ground := Ground.data }, { on := 26, ground := Ground.data }], guard := none }) (v := ?v1x27) rfl (by kernel_rfl) (by kernel_rfl) (by kernel_rfl) (fun _ _ _ h => h) (Or.inl ⟨by rfl, ?hy1x27⟩) hHeld ?rest1x27
      case hy1x27 => (intro w hSw; (try dsimp only at hSw); go_simp; try with_reducible rfl)
      simp only [Act.put, List.setIfInBounds_toArray, List.set_cons_zero, List.set_cons_succ]
      refine wpAnyH_take (i := 28) (oi := { dst := some 77, op := Op.move (Operand.tmp 76), type := 4, pos := "laws.go:519", after := #[{ on := 27, ground := Ground.data }, { on := 13, ground := Ground.chain }], guard := none }) (v := ?v1x28) rfl (by kernel_rfl) (by kernel_rfl) (by kernel_rfl) (fun _ _ _ h => h) (Or.inl ⟨by rfl, ?hy1x28⟩) hHeld ?rest1x28
      case hy1x28 => (intro w hSw; (try dsimp only at hSw); go_simp; try with_reducible rfl)
      simp only [Act.put, List.setIfInBounds_toArray, List.set_cons_zero, List.set_cons_succ]
      refine wpAnyH_take (i := 29) (oi := { dst := some 78, op := Op.fieldAddr 33 (Operand.tmp 5) 1, type := 0, pos := "laws.go:519", after := #[{ on := 28, ground := Ground.guard }], guard := some (28, false) }) (v := ?v1x29) rfl (by kernel_rfl) (by kernel_rfl) (by kernel_rfl) (fun _ _ _ h => h) (Or.inl ⟨by rfl, ?hy1x29⟩) hHeld ?rest1x29
      case hy1x29 => (intro w hSw; (try dsimp only at hSw); go_simp; try with_reducible rfl)
      simp only [Act.put, List.setIfInBounds_toArray, List.set_cons_zero, List.set_cons_succ]
      refine wpAnyH_take (i := 30) (oi := { dst := some 79, op := Op.load 31 (Operand.tmp 78), type := 31, pos := "laws.go:519", after := #[{ on := 29, ground := Ground.data }, { on := 28, ground := Ground.guard }], guard := some (28, false) }) (v := ?v1x30) rfl (by kernel_rfl) (by kernel_rfl) (by kernel_rfl) (fun _ _ _ h => h) (Or.inl ⟨by rfl, ?hy1x30⟩) hHeld ?rest1x30
      case hy1x30 => (intro w hSw; (try dsimp only at hSw); go_simp; try with_reducible rfl)
      simp only [Act.put, List.setIfInBounds_toArray, List.set_cons_zero, List.set_cons_succ]
      refine wpAnyH_take (i := 31) (oi := { dst := some 80, op := Op.move (Operand.tmp 7), type := 3, pos := "laws.go:519", after := #[{ on := 28, ground := Ground.guard }], guard := some (28, false) }) (v := ?v1x31) rfl (by kernel_rfl) (by kernel_rfl) (by kernel_rfl) (fun _ _ _ h => h) (Or.inl ⟨by rfl, ?hy1x31⟩) hHeld ?rest1x31
      case hy1x31 => (intro w hSw; (try dsimp only at hSw); go_simp; try with_reducible rfl)
      simp only [Act.put, List.setIfInBounds_toArray, List.set_cons_zero, List.set_cons_succ]
      refine wpAnyH_take (i := 32) (oi := { dst := some 81, op := Op.indexAddr 31 (Operand.tmp 79) (Operand.tmp 80), type := 0, pos := "laws.go:519", after := #[{ on := 30, ground := Ground.data }, { on := 31, ground := Ground.data }, { on := 28, ground := Ground.guard }], guard := some (28, false) }) (v := ?v1x32) rfl (by kernel_rfl) (by kernel_rfl) (by kernel_rfl) (fun _ _ _ h => h) (Or.inl ⟨by rfl, ?hy1x32⟩) hHeld ?rest1x32
      case hy1x32 => (intro w hSw; (try dsimp only at hSw); go_simp; try with_reducible rfl)
      simp only [Act.put, List.setIfInBounds_toArray, List.set_cons_zero, List.set_cons_succ]
      refine wpAnyH_take (i := 33) (oi := { dst := some 82, op := Op.fieldAddr 36 (Operand.tmp 81) 3, type := 0, pos := "laws.go:519", after := #[{ on := 32, ground := Ground.data }, { on := 28, ground := Ground.guard }], guard := some (28, false) }) (v := ?v1x33) rfl (by kernel_rfl) (by kernel_rfl) (by kernel_rfl) (fun _ _ _ h => h) (Or.inl ⟨by rfl, ?hy1x33⟩) hHeld ?rest1x33
      case hy1x33 => (intro w hSw; (try dsimp only at hSw); go_simp; try with_reducible rfl)
      simp only [Act.put, List.setIfInBounds_toArray, List.set_cons_zero, List.set_cons_succ]
      refine wpAnyH_take (i := 34) (oi := { dst := some 83, op := Op.load 2 (Operand.tmp 82), type := 2, pos := "laws.go:519", after := #[{ on := 33, ground := Ground.data }, { on := 28, ground := Ground.guard }], guard := some (28, false) }) (v := ?v1x34) rfl (by kernel_rfl) (by kernel_rfl) (by kernel_rfl) (fun _ _ _ h => h) (Or.inl ⟨by rfl, ?hy1x34⟩) hHeld ?rest1x34
      case hy1x34 => (intro w hSw; (try dsimp only at hSw); go_simp; try with_reducible rfl)
      simp only [Act.put, List.setIfInBounds_toArray, List.set_cons_zero, List.set_cons_succ]
      refine wpAnyH_take (i := 35) (oi := { dst := some 84, op := Op.fieldAddr 33 (Operand.tmp 6) 1, type := 0, pos := "laws.go:519", after := #[{ on := 28, ground := Ground.guard }], guard := some (28, false) }) (v := ?v1x35) rfl (by kernel_rfl) (by kernel_rfl) (by kernel_rfl) (fun _ _ _ h => h) (Or.inl ⟨by rfl, ?hy1x35⟩) hHeld ?rest1x35
      case hy1x35 => (intro w hSw; (try dsimp only at hSw); go_simp; try with_reducible rfl)
      simp only [Act.put, List.setIfInBounds_toArray, List.set_cons_zero, List.set_cons_succ]
      refine wpAnyH_take (i := 36) (oi := { dst := some 85, op := Op.load 31 (Operand.tmp 84), type := 31, pos := "laws.go:519", after := #[{ on := 35, ground := Ground.data }, { on := 28, ground := Ground.guard }], guard := some (28, false) }) (v := ?v1x36) rfl (by kernel_rfl) (by kernel_rfl) (by kernel_rfl) (fun _ _ _ h => h) (Or.inl ⟨by rfl, ?hy1x36⟩) hHeld ?rest1x36
      case hy1x36 => (intro w hSw; (try dsimp only at hSw); go_simp; try with_reducible rfl)
      simp only [Act.put, List.setIfInBounds_toArray, List.set_cons_zero, List.set_cons_succ]
      refine wpAnyH_take (i := 37) (oi := { dst := some 86, op := Op.move (Operand.tmp 7), type := 3, pos := "laws.go:519", after := #[{ on := 28, ground := Ground.guard }], guard := some (28, false) }) (v := ?v1x37) rfl (by kernel_rfl) (by kernel_rfl) (by kernel_rfl) (fun _ _ _ h => h) (Or.inl ⟨by rfl, ?hy1x37⟩) hHeld ?rest1x37
      case hy1x37 => (intro w hSw; (try dsimp only at hSw); go_simp; try with_reducible rfl)
      simp only [Act.put, List.setIfInBounds_toArray, List.set_cons_zero, List.set_cons_succ]
      refine wpAnyH_take (i := 38) (oi := { dst := some 87, op := Op.indexAddr 31 (Operand.tmp 85) (Operand.tmp 86), type := 0, pos := "laws.go:519", after := #[{ on := 36, ground := Ground.data }, { on := 37, ground := Ground.data }, { on := 28, ground := Ground.guard }], guard := some (28, false) }) (v := ?v1x38) rfl (by kernel_rfl) (by kernel_rfl) (by kernel_rfl) (fun _ _ _ h => h) (Or.inl ⟨by rfl, ?hy1x38⟩) hHeld ?rest1x38
      case hy1x38 => (intro w hSw; (try dsimp only at hSw); go_simp; try with_reducible rfl)
      simp only [Act.put, List.setIfInBounds_toArray, List.set_cons_zero, List.set_cons_succ]
      refine wpAnyH_take (i := 39) (oi := { dst := some 88, op := Op.fieldAddr 36 (Operand.tmp 87) 3, type := 0, pos := "laws.go:519", after := #[{ on := 38, ground := Ground.data }, { on := 28, ground := Ground.guard }], guard := some (28, false) }) (v := ?v1x39) rfl (by kernel_rfl) (by kernel_rfl) (by kernel_rfl) (fun _ _ _ h => h) (Or.inl ⟨by rfl, ?hy1x39⟩) hHeld ?rest1x39
      case hy1x39 => (intro w hSw; (try dsimp only at hSw); go_simp; try with_reducible rfl)
      simp only [Act.put, List.setIfInBounds_toArray, List.set_cons_zero, List.set_cons_succ]
      refine wpAnyH_take (i := 40) (oi := { dst := some 89, op := Op.load 2 (Operand.tmp 88), type := 2, pos := "laws.go:519", after := #[{ on := 39, ground := Ground.data }, { on := 28, ground := Ground.guard }], guard := some (28, false) }) (v := ?v1x40) rfl (by kernel_rfl) (by kernel_rfl) (by kernel_rfl) (fun _ _ _ h => h) (Or.inl ⟨by rfl, ?hy1x40⟩) hHeld ?rest1x40
      case hy1x40 => (intro w hSw; (try dsimp only at hSw); go_simp; try with_reducible rfl)
      simp only [Act.put, List.setIfInBounds_toArray, List.set_cons_zero, List.set_cons_succ]
      refine wpAnyH_take (i := 41) (oi := { dst := some 90, op := Op.binOp BinOp.neq 2 (Operand.tmp 83) (Operand.tmp 89) 2, type := 4, pos := "laws.go:519", after := #[{ on := 34, ground := Ground.data }, { on := 40, ground := Ground.data }, { on := 28, ground := Ground.guard }], guard := some (28, false) }) (v := ?v1x41) rfl (by kernel_rfl) (by kernel_rfl) (by kernel_rfl) (fun _ _ _ h => h) (Or.inl ⟨by rfl, ?hy1x41⟩) hHeld ?rest1x41
      case hy1x41 => (intro w hSw; (try dsimp only at hSw); go_simp; try with_reducible rfl)
      simp only [Act.put, List.setIfInBounds_toArray, List.set_cons_zero, List.set_cons_succ]
      refine wpAnyH_take (i := 42) (oi := { dst := some 91, op := Op.pick (Operand.tmp 77) (Operand.const (Value.bool true)) (Operand.tmp 90), type := 4, pos := "laws.go:519", after := #[{ on := 28, ground := Ground.data }, { on := 41, ground := Ground.data }], guard := none }) (v := ?v1x42) rfl (by kernel_rfl) (by kernel_rfl) (by kernel_rfl) (fun _ _ _ h => h) (Or.inl ⟨by rfl, ?hy1x42⟩) hHeld ?rest1x42
      case hy1x42 => (intro w hSw; (try dsimp only at hSw); go_simp; try with_reducible rfl)
      simp only [Act.put, List.setIfInBounds_toArray, List.set_cons_zero, List.set_cons_succ]
      refine wpAnyH_take (i := 43) (oi := { dst := some 92, op := Op.move (Operand.tmp 91), type := 4, pos := "laws.go:519", after := #[{ on := 42, ground := Ground.data }, { on := 28, ground := Ground.chain }], guard := none }) (v := ?v1x43) rfl (by kernel_rfl) (by kernel_rfl) (by kernel_rfl) (fun _ _ _ h => h) (Or.inl ⟨by rfl, ?hy1x43⟩) hHeld ?rest1x43
      case hy1x43 => (intro w hSw; (try dsimp only at hSw); go_simp; try with_reducible rfl)
      simp only [Act.put, List.setIfInBounds_toArray, List.set_cons_zero, List.set_cons_succ]
      refine wpAnyH_take (i := 44) (oi := { dst := some 93, op := Op.fieldAddr 33 (Operand.tmp 5) 1, type := 0, pos := "laws.go:519", after := #[{ on := 43, ground := Ground.guard }], guard := some (43, false) }) (v := ?v1x44) rfl (by kernel_rfl) (by kernel_rfl) (by kernel_rfl) (fun _ _ _ h => h) (Or.inl ⟨by rfl, ?hy1x44⟩) hHeld ?rest1x44
      case hy1x44 => (intro w hSw; (try dsimp only at hSw); go_simp; try with_reducible rfl)
      simp only [Act.put, List.setIfInBounds_toArray, List.set_cons_zero, List.set_cons_succ]
      refine wpAnyH_take (i := 45) (oi := { dst := some 94, op := Op.load 31 (Operand.tmp 93), type := 31, pos := "laws.go:519", after := #[{ on := 44, ground := Ground.data }, { on := 43, ground := Ground.guard }], guard := some (43, false) }) (v := ?v1x45) rfl (by kernel_rfl) (by kernel_rfl) (by kernel_rfl) (fun _ _ _ h => h) (Or.inl ⟨by rfl, ?hy1x45⟩) hHeld ?rest1x45
      case hy1x45 => (intro w hSw; (try dsimp only at hSw); go_simp; try with_reducible rfl)
      simp only [Act.put, List.setIfInBounds_toArray, List.set_cons_zero, List.set_cons_succ]
      refine wpAnyH_take (i := 46) (oi := { dst := some 95, op := Op.move (Operand.tmp 7), type := 3, pos := "laws.go:519", after := #[{ on := 43, ground := Ground.guard }], guard := some (43, false) }) (v := ?v1x46) rfl (by kernel_rfl) (by kernel_rfl) (by kernel_rfl) (fun _ _ _ h => h) (Or.inl ⟨by rfl, ?hy1x46⟩) hHeld ?rest1x46
      case hy1x46 => (intro w hSw; (try dsimp only at hSw); go_simp; try with_reducible rfl)
      simp only [Act.put, List.setIfInBounds_toArray, List.set_cons_zero, List.set_cons_succ]
      refine wpAnyH_take (i := 47) (oi := { dst := some 96, op := Op.indexAddr 31 (Operand.tmp 94) (Operand.tmp 95), type := 0, pos := "laws.go:519", after := #[{ on := 45, ground := Ground.data }, { on := 46, ground := Ground.data }, { on := 43, ground := Ground.guard }], guard := some (43, false) }) (v := ?v1x47) rfl (by kernel_rfl) (by kernel_rfl) (by kernel_rfl) (fun _ _ _ h => h) (Or.inl ⟨by rfl, ?hy1x47⟩) hHeld ?rest1x47
      case hy1x47 => (intro w hSw; (try dsimp only at hSw); go_simp; try with_reducible rfl)
      simp only [Act.put, List.setIfInBounds_toArray, List.set_cons_zero, List.set_cons_succ]
      refine wpAnyH_take (i := 48) (oi := { dst := some 97, op := Op.fieldAddr 36 (Operand.tmp 96) 2, type := 0, pos := "laws.go:519", after := #[{ on := 47, ground := Ground.data }, { on := 43, ground := Ground.guard }], guard := some (43, false) }) (v := ?v1x48) rfl (by kernel_rfl) (by kernel_rfl) (by kernel_rfl) (fun _ _ _ h => h) (Or.inl ⟨by rfl, ?hy1x48⟩) hHeld ?rest1x48
      case hy1x48 => (intro w hSw; (try dsimp only at hSw); go_simp; try with_reducible rfl)
      simp only [Act.put, List.setIfInBounds_toArray, List.set_cons_zero, List.set_cons_succ]
      refine wpAnyH_take (i := 49) (oi := { dst := some 98, op := Op.load 23 (Operand.tmp 97), type := 23, pos := "laws.go:519", after := #[{ on := 48, ground := Ground.data }, { on := 43, ground := Ground.guard }], guard := some (43, false) }) (v := ?v1x49) rfl (by kernel_rfl) (by kernel_rfl) (by kernel_rfl) (fun _ _ _ h => h) (Or.inl ⟨by rfl, ?hy1x49⟩) hHeld ?rest1x49
      case hy1x49 => (intro w hSw; (try dsimp only at hSw); go_simp; try with_reducible rfl)
      simp only [Act.put, List.setIfInBounds_toArray, List.set_cons_zero, List.set_cons_succ]
      refine wpAnyH_take (i := 50) (oi := { dst := some 99, op := Op.fieldAddr 33 (Operand.tmp 6) 1, type := 0, pos := "laws.go:519", after := #[{ on := 43, ground := Ground.guard }], guard := some (43, false) }) (v := ?v1x50) rfl (by kernel_rfl) (by kernel_rfl) (by kernel_rfl) (fun _ _ _ h => h) (Or.inl ⟨by rfl, ?hy1x50⟩) hHeld ?rest1x50
      case hy1x50 => (intro w hSw; (try dsimp only at hSw); go_simp; try with_reducible rfl)
      simp only [Act.put, List.setIfInBounds_toArray, List.set_cons_zero, List.set_cons_succ]
      refine wpAnyH_take (i := 51) (oi := { dst := some 100, op := Op.load 31 (Operand.tmp 99), type := 31, pos := "laws.go:519", after := #[{ on := 50, ground := Ground.data }, { on := 43, ground := Ground.guard }], guard := some (43, false) }) (v := ?v1x51) rfl (by kernel_rfl) (by kernel_rfl) (by kernel_rfl) (fun _ _ _ h => h) (Or.inl ⟨by rfl, ?hy1x51⟩) hHeld ?rest1x51
      case hy1x51 => (intro w hSw; (try dsimp only at hSw); go_simp; try with_reducible rfl)
      simp only [Act.put, List.setIfInBounds_toArray, List.set_cons_zero, List.set_cons_succ]
      refine wpAnyH_take (i := 52) (oi := { dst := some 101, op := Op.move (Operand.tmp 7), type := 3, pos := "laws.go:519", after := #[{ on := 43, ground := Ground.guard }], guard := some (43, false) }) (v := ?v1x52) rfl (by kernel_rfl) (by kernel_rfl) (by kernel_rfl) (fun _ _ _ h => h) (Or.inl ⟨by rfl, ?hy1x52⟩) hHeld ?rest1x52
      case hy1x52 => (intro w hSw; (try dsimp only at hSw); go_simp; try with_reducible rfl)
      simp only [Act.put, List.setIfInBounds_toArray, List.set_cons_zero, List.set_cons_succ]
      refine wpAnyH_take (i := 53) (oi := { dst := some 102, op := Op.indexAddr 31 (Operand.tmp 100) (Operand.tmp 101), type := 0, pos := "laws.go:519", after := #[{ on := 51, ground := Ground.data }, { on := 52, ground := Ground.data }, { on := 43, ground := Ground.guard }], guard := some (43, false) }) (v := ?v1x53) rfl (by kernel_rfl) (by kernel_rfl) (by kernel_rfl) (fun _ _ _ h => h) (Or.inl ⟨by rfl, ?hy1x53⟩) hHeld ?rest1x53
      case hy1x53 => (intro w hSw; (try dsimp only at hSw); go_simp; try with_reducible rfl)
      simp only [Act.put, List.setIfInBounds_toArray, List.set_cons_zero, List.set_cons_succ]
      refine wpAnyH_take (i := 54) (oi := { dst := some 103, op := Op.fieldAddr 36 (Operand.tmp 102) 2, type := 0, pos := "laws.go:519", after := #[{ on := 53, ground := Ground.data }, { on := 43, ground := Ground.guard }], guard := some (43, false) }) (v := ?v1x54) rfl (by kernel_rfl) (by kernel_rfl) (by kernel_rfl) (fun _ _ _ h => h) (Or.inl ⟨by rfl, ?hy1x54⟩) hHeld ?rest1x54
      case hy1x54 => (intro w hSw; (try dsimp only at hSw); go_simp; try with_reducible rfl)
      simp only [Act.put, List.setIfInBounds_toArray, List.set_cons_zero, List.set_cons_succ]
      refine wpAnyH_take (i := 55) (oi := { dst := some 104, op := Op.load 23 (Operand.tmp 103), type := 23, pos := "laws.go:519", after := #[{ on := 54, ground := Ground.data }, { on := 43, ground := Ground.guard }], guard := some (43, false) }) (v := ?v1x55) rfl (by kernel_rfl) (by kernel_rfl) (by kernel_rfl) (fun _ _ _ h => h) (Or.inl ⟨by rfl, ?hy1x55⟩) hHeld ?rest1x55
      case hy1x55 => (intro w hSw; (try dsimp only at hSw); go_simp; try with_reducible rfl)
      simp only [Act.put, List.setIfInBounds_toArray, List.set_cons_zero, List.set_cons_succ]
      refine wpAnyH_ready (rs := [56]) (by kernel_rfl) (by simp) ?_
      refine AllReadyH.cons (o := { dst := some 105, op := Op.call { callee := Callee.value (Operand.func 11), args := #[Operand.tmp 98, Operand.tmp 104], argTypes := #[23, 23] }, type := 4, pos := "laws.go:519", after := #[{ on := 49, ground := Ground.data }, { on := 55, ground := Ground.data }, { on := 43, ground := Ground.chain }, { on := 43, ground := Ground.guard }], guard := some (43, false) }) rfl (fun K hK => ?_) AllReadyH.nil
      go_simp
      go_at_call 11
      refine (KT _ hHeld.2).out.mono ?_
      rintro e w5 ⟨rfl, hb5⟩
      refine hK.out _ _ ?_ (fun hHeld => ?_)
      · exact CA.out _ (hHeld.2.trans (hb5.mono hHeld.2.size))
      clear hK K
      try simp only [Act.put, List.setIfInBounds_toArray, List.set_cons_zero, List.set_cons_succ]
      refine wpAnyH_take (i := 57) (oi := { dst := some 106, op := Op.unOp UnOp.not 4 (Operand.tmp 105), type := 4, pos := "laws.go:519", after := #[{ on := 56, ground := Ground.data }, { on := 43, ground := Ground.guard }], guard := some (43, false) }) (v := ?v1x57) rfl (by kernel_rfl) (by kernel_rfl) (by kernel_rfl) (fun _ _ _ h => h) (Or.inl ⟨by rfl, ?hy1x57⟩) hHeld ?rest1x57
      case hy1x57 => (intro w hSw; (try dsimp only at hSw); go_simp; try with_reducible rfl)
      simp only [Act.put, List.setIfInBounds_toArray, List.set_cons_zero, List.set_cons_succ]
      refine wpAnyH_take (i := 58) (oi := { dst := some 107, op := Op.pick (Operand.tmp 92) (Operand.const (Value.bool true)) (Operand.tmp 106), type := 4, pos := "laws.go:519", after := #[{ on := 43, ground := Ground.data }, { on := 57, ground := Ground.data }], guard := none }) (v := ?v1x58) rfl (by kernel_rfl) (by kernel_rfl) (by kernel_rfl) (fun _ _ _ h => h) (Or.inl ⟨by rfl, ?hy1x58⟩) hHeld ?rest1x58
      case hy1x58 => (intro w hSw; (try dsimp only at hSw); go_simp; try with_reducible rfl)
      simp only [Act.put, List.setIfInBounds_toArray, List.set_cons_zero, List.set_cons_succ]
      refine wpAnyH_done (by kernel_rfl) ?_ _
      have BD := hid hHeld.2
      clear hHeld
      go_wp2_with fail
      go_roundw
      case rel => exact ⟨i + 1, HI.out, by go_num, BD.out⟩
      case measure => simp [intOf]; have := HI.out; omega
    · have hlt' : ¬ (i : Int) < (nO : Int) := by omega
      have x50 := (Q5.out.below BR.out Q5.out.lt).cell 0
      have x51 := (Q5.out.below BR.out Q5.out.lt).cell 1
      have x60 := (R6.out.below BR.out R6.out.lt).cell 0
      have BE : Hid (Below w.heap.size w WR) := B3.out.trans (BR.out.mono B3.out.size)
      have Q8 := hid (Q5.out.below BR.out Q5.out.lt)
      clear OQ5 OT5 OO6 OS6 M5 M6 Q5 R6 BR
      by_cases h0 : nO = 0
      · have z0 : (nO : Int) = 0 := by omega
        have z1 : ((nO : Int) == 0) = true := by simp; omega
        clear h0
        go_wp2_with fail
        go_ret
        exact ⟨rfl, BE.out⟩
      have z0 : ¬ (nO : Int) = 0 := by omega
      have z1 : ((nO : Int) == 0) = false := by simp; omega
      by_cases h1 : 10000 < D1.size
      · have h1' : (10000 : Int) < (D1.size : Int) := by omega
        go_wp2_with fail
        go_ret
        exact ⟨rfl, BE.out⟩
      have h1' : ¬ (10000 : Int) < (D1.size : Int) := by omega
      have h1'' : decide ((10000 : Int) < (D1.size : Int)) = false := by simp; omega
      obtain ⟨sy, hsy, hOK⟩ := ROK.out (fun e => h0 (by rw [NO.out, e]; rfl))
      subst hsy
      have XO := hid hOK
      have NN := sc_nine D1
      obtain ⟨N, hN⟩ : ∃ n, n = (sc D1 0).length := ⟨_, rfl⟩
      have KSC := hid (sScanX D1 (by omega) (sc D1 0) (by rw [if_neg (by omega)]) WR)
      rw [← hN] at NN KSC
      have N11 : N ≤ 1111 := by omega
      have HN := hid hN
      clear ROK hOK hN NN RKS NO
      go_wp2_with (first | (refine KSC.out.mono ?_) | go_in)
      rintro e w8 aL cL rfl hR8 hb8
      have HR := hid hR8
      have BW : Hid (Below w.heap.size w w8) := BE.out.trans (hb8.mono BE.out.size)
      have Q9 := hid (Q8.out.below hb8 Q8.out.lt)
      obtain ⟨W8, hW8⟩ : ∃ v, v = w8 := ⟨_, rfl⟩
      rw [← hW8] at HR BW Q9
      rw [← hW8]
      clear hR8 hb8 hW8 KSC BE Q8 x50 x51 x60 x52 x62 z0 z1 h1' h1'' h0
      obtain ⟨KK, hKK⟩ : ∃ K : Nat → ByteArray, K = fun k => keyAt D1 (sc D1 0) k := ⟨_, rfl⟩
      have HKK : Hid (∀ k, KK k = keyAt D1 (sc D1 0) k) := fun k => by rw [hKK]
      have KZ : Hid (∀ k, (KK k).size ≤ 1048576) := fun k => by rw [HKK.out]; exact Nat.le_trans (key_le D1 k) (by omega)
      clear hKK
      go_wp2_with fail
      go_loopw [9, 10] (fun y9 y10 wx => ∃ (k : Nat) (V : Value), k ≤ N ∧ V = y9 ∧ y10 = .int .i64 (k : Int) ∧ OwnOp wx W8.heap.size V (rdsL KK k) ∧ Below W8.heap.size W8 wx) (fun _ y10 _ => N - (intOf y10).toNat)
      case atStart => exact ⟨0, _, Nat.zero_le _, rfl, rfl, OwnOp.empty W8 W8.heap.size (Nat.le_refl _), (Below.refl _ _).alloc (Nat.le_refl _) _⟩
      case round =>
        obtain ⟨k, V, hk, rfl, rfl, hO, hB⟩ := hrel
        obtain ⟨WK, rfl⟩ : ∃ v, v = wr := ⟨_, rfl⟩
        obtain ⟨av2, cv2, hv2⟩ := hO.slice
        rw [rdsL_len] at hv2
        have OK := hid hO
        have BK := hid hB
        clear hO hB
        subst hv2
        by_cases hkN : k < N
        · have hkN' : (k : Int) < (N : Int) := by omega
          have k0 : (0 : Int) ≤ (k : Int) := by omega
          have HI := hid (show k + 1 ≤ N by omega)
          rcases (HR.out.below BK.out).2 with h00 | ⟨bl, rfl, hbl, hcl⟩
          · omega
          have c0 : WK.cell? ⟨bl, k * 5, none⟩ = some (.string (KK k)) := by rw [HKK.out, ← rcF_key D1 (sc D1 0) k (by rw [← HN.out]; exact hkN)]; exact hcl _ (by omega)
          have E5 : Hid (rdsL KK (k + 1) = rdsL KK k ++ [opRd (KK k)]) := rfl
          obtain ⟨q, hq⟩ : ∃ q, q = KK k := ⟨_, rfl⟩
          rw [← hq] at c0 E5
          clear hq hcl
          go_wp2_with (first | (at_builtin; refine append_op W8.heap.size WK rfl (.tmp 130) (.tmp 137) rfl _ (rdsL KK k) (opRd q) rfl OK.out BK.out.size rfl (by rw [rdsL_len]; omega) ?_) | go_in)
          intro v5 w5 hO5 hg5
          have B5 : Hid (Below W8.heap.size W8 w5) := BK.out.grown hg5 BK.out.size fun g e => (orRow OK.out e).1
          rw [← E5.out] at hO5
          have O5' := hid hO5
          clear hO5 hg5 c0 OK BK
          go_wp2_with fail
          go_roundw
          case rel => exact ⟨k + 1, _, HI.out, rfl, by go_num, O5'.out, B5.out⟩
          case measure => simp [intOf]; have := HI.out; omega
        · have hkN' : ¬ (k : Int) < (N : Int) := by omega
          have ek : N = k := by omega
          subst ek
          have Q10 := Q9.out.below BK.out Q9.out.lt
          have x50 := Q10.cell 0
          have x51 := Q10.cell 1
          have BL := hid (BW.out.trans (BK.out.mono BW.out.size))
          have ln : (rdsL KK N).length = N := rdsL_len KK N
          have OE := hid (OK.out.exsN ln)
          have KI := hid (iRunE ea eb D1 (sy : Int) (rdsL KK N) av2 cv2 (fun j hj => by
            have e : (rdsL KK N).getD j opZ = (rdsL KK N)[j] := by rw [List.getD_eq_getElem?_getD, List.getElem?_eq_getElem hj]; rfl
            rw [e]
            exact rdsL_sz KK KZ.out N _ (List.getElem_mem hj)) WK (HE.out.below BL.out) (HT.out.below BL.out) (by rw [ln]; exact OE.out))
          have EA := rRes_yes (L := rdsL KK N) XO.out (by rw [ln]; omega)
          have EB := rRes_yes (L := [opCm, opSc] ++ rdsL KK N) XO.out (by rw [List.length_append, ln]; show 2 + _ ≤ _; omega)
          obtain ⟨RA, hRA⟩ : ∃ r, r = rRes D1 (sy : Int) (rdsL KK N) := ⟨_, rfl⟩
          obtain ⟨RB, hRB⟩ : ∃ r, r = rRes D1 (sy : Int) ([opCm, opSc] ++ rdsL KK N) := ⟨_, rfl⟩
          rw [← hRA] at KI EA
          rw [← hRB] at EB
          obtain ⟨⟨DA, SA⟩, LA⟩ := RA
          obtain ⟨⟨DB, SB⟩, LB⟩ := RB
          have hLA : LA = (xF D1 sy (rdsL KK N)).2 := congrArg (fun r : (ByteArray × Int) × List XOt => r.2) EA
          have hLB : LB = (xF D1 sy ([opCm, opSc] ++ rdsL KK N)).2 := congrArg (fun r : (ByteArray × Int) × List XOt => r.2) EB
          have lA : LA.length = N := by rw [hLA, xF_len, ln]
          obtain ⟨m2, hm2⟩ : ∃ m, m = N + 2 := ⟨_, rfl⟩
          have lB : LB.length = m2 := by rw [hLB, xF_len, List.length_append, ln, hm2]; show 2 + N = _; omega
          simp only at KI
          rw [ln] at KI
          have HLA := hid hLA
          have HLB := hid hLB
          have HRB := hid hRB.symm
          have HLL := hid lA
          have HBB := hid lB
          clear hRA hRB hLA hLB EA EB lA lB hkN hk
          go_wp2_with (first | (refine KI.out.mono ?_) | go_in)
          rintro e w11 ⟨⟨a11, c11, O11, rfl, hm11, ho11, hs11⟩, hb11⟩
          rw [HLL.out] at ho11
          obtain ⟨W11, hW11⟩ : ∃ W, W = w11.alloc (.cells #[.string DA, .int .i64 SA, .slice a11 N c11] 33) := ⟨_, rfl⟩
          obtain ⟨X11, hX11⟩ : ∃ x, x = w11.heap.size := ⟨_, rfl⟩
          have bW : Below w11.heap.size w11 W11 := by rw [hW11]; exact (Below.refl _ _).alloc (Nat.le_refl _) _
          have bK : Below WK.heap.size WK W11 := hb11.trans (bW.mono hb11.size)
          have R11 : Hid (RowAt W11 X11 33 #[.string DA, .int .i64 SA, .slice a11 N c11]) := by rw [hW11, hX11]; exact RowAt.new _ _ _
          have M11 := hid hm11
          have OO11 : Hid (W11.ownsRow w.heap.size 36 4 (.slice a11 N c11) O11.length (xoL O11)) := orBase (orKeep ho11 fun g cs _ r => r.below bW r.lt) BL.out.size
          have OS11 : Hid (∀ p ∈ O11, OwnStrs W11 w.heap.size p.2 p.1.ks) := fun p hp => orBase (orKeep (hs11 p hp) fun g cs _ r => r.below bW r.lt) BL.out.size
          have Q11 := hid (Q10.below bK Q10.lt)
          have B11 := hid (BL.out.trans (bK.mono BL.out.size))
          have OR := hid (OK.out.below bK)
          have HW := hid hW11
          have HX := hid hX11
          clear hm11 ho11 hs11 hb11 hW11 hX11 bW bK KI Q10 x50 x51 BL OE OK BK Q9
          rw [HLL.out]
          go_upto_region 22 with ((refine wpList_store_row rfl 33 (.tmp 11) (.tmp 142) rfl w11.heap.size #[.string DA, .int .i64 SA, .slice a11 N c11] rfl rfl _ _ (RowAt.new w11 _ _) (by kernel_rfl) rfl (by simp [Value.oneCell']) ?_); rw [World.setRow_alloc_new])
          rw [← HW.out, ← HX.out]
          clear HW HX
          refine e22_wp W11 ea eb X5 nO N m2 c5 cv2 W8.heap.size a5 av2 D1 DB (sy : Int) SB (rdsL KK N) LB W11 (Below.refl _ _) Q11.out OR.out ⟨HE.out.below B11.out, HT.out.below B11.out⟩ HRB.out ⟨ln, HBB.out, by omega⟩ (fun j hj => ?_) ?_
          · have e : ([opCm, opSc] ++ rdsL KK N).getD j opZ = ([opCm, opSc] ++ rdsL KK N)[j] := by rw [List.getD_eq_getElem?_getD, List.getElem?_eq_getElem hj]; rfl
            rw [e]
            have hmem := List.getElem_mem hj
            rcases List.mem_append.1 hmem with h | h
            · simp only [List.mem_cons, List.not_mem_nil, or_false] at h
              rcases h with h | h
              · rw [h]; exact ⟨Nat.zero_le _, Nat.zero_le _⟩
              · rw [h]; exact ⟨Nat.zero_le _, Nat.zero_le _⟩
            · exact rdsL_sz KK KZ.out N _ h
          intro XS X12 aB cB a12 c12 O12 W12 hB12 _ hm12 ho12 hk12 hb12 _ _ _ _ _ _
          have M12 := hid hm12
          have OO12 := hid ho12
          have OS12 := hid hk12
          have R12 : Hid (RowAt W12 X12 33 #[.string DB, .int .i64 SB, .slice a12 m2 c12]) := hb12.2
          have Q12 := hid (R11.out.below hB12 R11.out.lt)
          have OP11 : Hid (W12.ownsRow w.heap.size 36 4 (.slice a11 N c11) O11.length (xoL O11)) := orKeep OO11.out fun g cs _ r => r.below hB12 r.lt
          have OT11 : Hid (∀ p ∈ O11, OwnStrs W12 w.heap.size p.2 p.1.ks) := fun p hp => (OS11.out p hp).below hB12
          have B12 := hid (B11.out.trans (hB12.mono B11.out.size))
          obtain ⟨g12, y, ka, kc, rfl, hg12, hy, p0, p1, p2, p3, hSy⟩ := outE_at OO12.out OS12.out M12.out (P := 1) (by rw [HBB.out]; omega)
          have hks := ext_scrub D1 sy KK N y (by rw [← HLB.out]; exact hy)
          rw [hks] at p2
          have k6 : W12.cell? ⟨g12, 6, none⟩ = some (.slice ka 0 kc) := p2
          have x11 := Q12.out.cell 2
          have x12 := R12.out.cell 2
          have mI : (m2 : Int) = (N : Int) + 2 := by omega
          have n0 : (0 : Int) ≤ (N : Int) := by omega
          clear hB12 hm12 ho12 hk12 hb12 hy p0 p1 p2 p3 hSy hks OO11 OS11 R11 B11 Q11 OR hg12 hm2
          go_wp2_with fail
          clear k6 x11 x12
          go_loopw [13] (fun y13 wr => ∃ j : Nat, j ≤ N ∧ y13 = .int .i64 (j : Int) ∧ Below W12.heap.size W12 wr) (fun y13 _ => N - (intOf y13).toNat)
          case atStart => exact ⟨0, Nat.zero_le _, rfl, Below.refl _ _⟩
          case round =>
            obtain ⟨j, hj, rfl, hB⟩ := hrel
            obtain ⟨WX, rfl⟩ : ∃ v, v = wr := ⟨_, rfl⟩
            have BX := hid hB
            clear hB
            by_cases hjN : j < N
            · have hjN' : (j : Int) < (N : Int) := by omega
              have j0 : (0 : Int) ≤ (j : Int) := by omega
              have HJ := hid (show j + 1 ≤ N by omega)
              obtain ⟨P, hP⟩ : ∃ p, p = j + 2 := ⟨_, rfl⟩
              have pE : (j : Int) + 2 = (P : Int) := by omega
              have p0 : (0 : Int) ≤ (P : Int) := by omega
              have p1 : (P : Int) < (N : Int) + 2 := by omega
              have pw : IntKind.i64.wrap (P : Int) = (P : Int) := by rw [IntKind.wrap_i64]; omega
              obtain ⟨g11, x, k11, kc11, rfl, hg11, hx11, e0, e1, e2, e3, _⟩ := outE_at OP11.out OT11.out M11.out (P := j) (by rw [HLL.out]; exact hjN)
              obtain ⟨gg, y2, k12, kc12, hgg, hg12, hy12, f0, f1, f2, f3, _⟩ := outE_at OO12.out OS12.out M12.out (P := P) (by rw [HBB.out]; omega)
              have eg : gg = g12 := by injection hgg with q; injection q with q; exact q.symm
              subst eg
              obtain ⟨c1, c2⟩ := ext_sees D1 sy KK N j hjN x y2 (by rw [← HLA.out]; exact hx11) (by rw [← HLB.out, ← hP]; exact hy12)
              rw [← c1] at f0
              rw [← c2] at f1
              obtain ⟨xc, hxc⟩ : ∃ v, v = x.cd := ⟨_, rfl⟩
              obtain ⟨xd, hxd⟩ : ∃ v, v = x.dt := ⟨_, rfl⟩
              rw [← hxc] at e0 f0
              rw [← hxd] at e1 f1
              have CA := hid (show ∀ wx, Below W12.heap.size W12 wx → (wx.cell? ⟨X11, 2, none⟩ = some (.slice (some ⟨g11, 0, none⟩) N c11) ∧ wx.cell? ⟨X12, 2, none⟩ = some (.slice (some ⟨gg, 0, none⟩) m2 c12) ∧ wx.cell? ⟨g11, j * 4, none⟩ = some (.int .i64 xc) ∧ wx.cell? ⟨g11, j * 4 + 1, none⟩ = some (.string xd) ∧ wx.cell? ⟨gg, P * 4, none⟩ = some (.int .i64 xc) ∧ wx.cell? ⟨gg, P * 4 + 1, none⟩ = some (.string xd)) from fun wx hb => by
                have r5 := (Q12.out.below hb Q12.out.lt).cell 2
                have r6 := (R12.out.below hb R12.out.lt).cell 2
                have c5 := fun j => hb.cell (p := ⟨g11, j, none⟩) hg11
                have c6 := fun j => hb.cell (p := ⟨gg, j, none⟩) hg12
                exact ⟨r5, r6, (c5 _).trans e0, (c5 _).trans e1, (c6 _).trans f0, (c6 _).trans f1⟩)
              clear hP hx11 hy12 e0 e1 e2 e3 f0 f1 f2 f3 hgg c1 c2 hxc hxd hg11 hg12
              have x11 := (CA.out WX BX.out).1
              have x12 := (CA.out WX BX.out).2.1
              go_upto_region 28 with fail
              clear x11 x12
              refine wp_region_held_drew (S := fun wx => wx.cell? ⟨X11, 2, none⟩ = some (.slice (some ⟨g11, 0, none⟩) N c11) ∧ wx.cell? ⟨X12, 2, none⟩ = some (.slice (some ⟨gg, 0, none⟩) m2 c12) ∧ wx.cell? ⟨g11, j * 4, none⟩ = some (.int .i64 xc) ∧ wx.cell? ⟨g11, j * 4 + 1, none⟩ = some (.string xd) ∧ wx.cell? ⟨gg, P * 4, none⟩ = some (.int .i64 xc) ∧ wx.cell? ⟨gg, P * 4 + 1, none⟩ = some (.string xd)) (by kernel_rfl) ?_ (fun hHeld => ?_)
              · exact CA.out _ BX.out.drew
              refine wpAnyH_take (i := 0) (oi := { dst := some 181, op := Op.fieldAddr 33 (Operand.tmp 11) 1, type := 0, pos := "laws.go:537", after := #[], guard := none }) (v := ?v2x0) rfl (by kernel_rfl) (by kernel_rfl) (by kernel_rfl) (fun _ _ _ h => h) (Or.inl ⟨by rfl, ?hy2x0⟩) hHeld ?rest2x0
              case hy2x0 => (intro w hSw; (try dsimp only at hSw); go_simp; try with_reducible rfl)
              simp only [Act.put, List.setIfInBounds_toArray, List.set_cons_zero, List.set_cons_succ]
              refine wpAnyH_take (i := 1) (oi := { dst := some 182, op := Op.load 31 (Operand.tmp 181), type := 31, pos := "laws.go:537", after := #[{ on := 0, ground := Ground.data }], guard := none }) (v := ?v2x1) rfl (by kernel_rfl) (by kernel_rfl) (by kernel_rfl) (fun _ _ _ h => h) (Or.inl ⟨by rfl, ?hy2x1⟩) hHeld ?rest2x1
              case hy2x1 => (intro w hSw; (try dsimp only at hSw); go_simp; try with_reducible rfl)
              simp only [Act.put, List.setIfInBounds_toArray, List.set_cons_zero, List.set_cons_succ]
              refine wpAnyH_take (i := 2) (oi := { dst := some 183, op := Op.move (Operand.tmp 13), type := 3, pos := "laws.go:537", after := #[], guard := none }) (v := ?v2x2) rfl (by kernel_rfl) (by kernel_rfl) (by kernel_rfl) (fun _ _ _ h => h) (Or.inl ⟨by rfl, ?hy2x2⟩) hHeld ?rest2x2
              case hy2x2 => (intro w hSw; (try dsimp only at hSw); go_simp; try with_reducible rfl)
              simp only [Act.put, List.setIfInBounds_toArray, List.set_cons_zero, List.set_cons_succ]
              refine wpAnyH_take (i := 3) (oi := { dst := some 184, op := Op.indexAddr 31 (Operand.tmp 182) (Operand.tmp 183), type := 0, pos := "laws.go:537", after := #[{ on := 1, ground := Ground.data }, { on := 2, ground := Ground.data }], guard := none }) (v := ?v2x3) rfl (by kernel_rfl) (by kernel_rfl) (by kernel_rfl) (fun _ _ _ h => h) (Or.inl ⟨by rfl, ?hy2x3⟩) hHeld ?rest2x3
              case hy2x3 => (intro w hSw; (try dsimp only at hSw); go_simp; try with_reducible rfl)
              simp only [Act.put, List.setIfInBounds_toArray, List.set_cons_zero, List.set_cons_succ]
              refine wpAnyH_take (i := 4) (oi := { dst := some 185, op := Op.fieldAddr 36 (Operand.tmp 184) 0, type := 0, pos := "laws.go:537", after := #[{ on := 3, ground := Ground.data }], guard := none }) (v := ?v2x4) rfl (by kernel_rfl) (by kernel_rfl) (by kernel_rfl) (fun _ _ _ h => h) (Or.inl ⟨by rfl, ?hy2x4⟩) hHeld ?rest2x4
              case hy2x4 => (intro w hSw; (try dsimp only at hSw); go_simp; try with_reducible rfl)
              simp only [Act.put, List.setIfInBounds_toArray, List.set_cons_zero, List.set_cons_succ]
              refine wpAnyH_take (i := 5) (oi := { dst := some 186, op := Op.load 2 (Operand.tmp 185), type := 2, pos := "laws.go:537", after := #[{ on := 4, ground := Ground.data }], guard := none }) (v := ?v2x5) rfl (by kernel_rfl) (by kernel_rfl) (by kernel_rfl) (fun _ _ _ h => h) (Or.inl ⟨by rfl, ?hy2x5⟩) hHeld ?rest2x5
              case hy2x5 => (intro w hSw; (try dsimp only at hSw); go_simp; try with_reducible rfl)
              simp only [Act.put, List.setIfInBounds_toArray, List.set_cons_zero, List.set_cons_succ]
              refine wpAnyH_take (i := 6) (oi := { dst := some 187, op := Op.fieldAddr 33 (Operand.tmp 12) 1, type := 0, pos := "laws.go:537", after := #[], guard := none }) (v := ?v2x6) rfl (by kernel_rfl) (by kernel_rfl) (by kernel_rfl) (fun _ _ _ h => h) (Or.inl ⟨by rfl, ?hy2x6⟩) hHeld ?rest2x6
              case hy2x6 => (intro w hSw; (try dsimp only at hSw); go_simp; try with_reducible rfl)
              simp only [Act.put, List.setIfInBounds_toArray, List.set_cons_zero, List.set_cons_succ]
              refine wpAnyH_take (i := 7) (oi := { dst := some 188, op := Op.load 31 (Operand.tmp 187), type := 31, pos := "laws.go:537", after := #[{ on := 6, ground := Ground.data }], guard := none }) (v := ?v2x7) rfl (by kernel_rfl) (by kernel_rfl) (by kernel_rfl) (fun _ _ _ h => h) (Or.inl ⟨by rfl, ?hy2x7⟩) hHeld ?rest2x7
              case hy2x7 => (intro w hSw; (try dsimp only at hSw); go_simp; try with_reducible rfl)
              simp only [Act.put, List.setIfInBounds_toArray, List.set_cons_zero, List.set_cons_succ]
              refine wpAnyH_take (i := 8) (oi := { dst := some 189, op := Op.move (Operand.tmp 13), type := 3, pos := "laws.go:537", after := #[], guard := none }) (v := ?v2x8) rfl (by kernel_rfl) (by kernel_rfl) (by kernel_rfl) (fun _ _ _ h => h) (Or.inl ⟨by rfl, ?hy2x8⟩) hHeld ?rest2x8
              case hy2x8 => (intro w hSw; (try dsimp only at hSw); go_simp; try with_reducible rfl)
              simp only [Act.put, List.setIfInBounds_toArray, List.set_cons_zero, List.set_cons_succ]
              refine wpAnyH_take (i := 9) (oi := { dst := some 190, op := Op.binOp BinOp.add 3 (Operand.tmp 189) (Operand.const (Value.int IntKind.i64 2)) 3, type := 3, pos := "laws.go:537", after := #[{ on := 8, ground := Ground.data }], guard := none }) (v := ?v2x9) rfl (by kernel_rfl) (by kernel_rfl) (by kernel_rfl) (fun _ _ _ h => h) (Or.inl ⟨by rfl, ?hy2x9⟩) hHeld ?rest2x9
              case hy2x9 => (intro w hSw; (try dsimp only at hSw); go_simp; try with_reducible rfl)
              simp only [Act.put, List.setIfInBounds_toArray, List.set_cons_zero, List.set_cons_succ]
              refine wpAnyH_take (i := 10) (oi := { dst := some 191, op := Op.indexAddr 31 (Operand.tmp 188) (Operand.tmp 190), type := 0, pos := "laws.go:537", after := #[{ on := 7, ground := Ground.data }, { on := 9, ground := Ground.data }], guard := none }) (v := ?v2x10) rfl (by kernel_rfl) (by kernel_rfl) (by kernel_rfl) (fun _ _ _ h => h) (Or.inl ⟨by rfl, ?hy2x10⟩) hHeld ?rest2x10
              case hy2x10 => (intro w hSw; (try dsimp only at hSw); go_simp; try with_reducible rfl)
              simp only [Act.put, List.setIfInBounds_toArray, List.set_cons_zero, List.set_cons_succ]
              refine wpAnyH_take (i := 11) (oi := { dst := some 192, op := Op.fieldAddr 36 (Operand.tmp 191) 0, type := 0, pos := "laws.go:537", after := #[{ on := 10, ground := Ground.data }], guard := none }) (v := ?v2x11) rfl (by kernel_rfl) (by kernel_rfl) (by kernel_rfl) (fun _ _ _ h => h) (Or.inl ⟨by rfl, ?hy2x11⟩) hHeld ?rest2x11
              case hy2x11 => (intro w hSw; (try dsimp only at hSw); go_simp; try with_reducible rfl)
              simp only [Act.put, List.setIfInBounds_toArray, List.set_cons_zero, List.set_cons_succ]
              refine wpAnyH_take (i := 12) (oi := { dst := some 193, op := Op.load 2 (Operand.tmp 192), type := 2, pos := "laws.go:537", after := #[{ on := 11, ground := Ground.data }], guard := none }) (v := ?v2x12) rfl (by kernel_rfl) (by kernel_rfl) (by kernel_rfl) (fun _ _ _ h => h) (Or.inl ⟨by rfl, ?hy2x12⟩) hHeld ?rest2x12
              case hy2x12 => (intro w hSw; (try dsimp only at hSw); go_simp; try with_reducible rfl)
              simp only [Act.put, List.setIfInBounds_toArray, List.set_cons_zero, List.set_cons_succ]
              refine wpAnyH_take (i := 13) (oi := { dst := some 194, op := Op.binOp BinOp.neq 2 (Operand.tmp 186) (Operand.tmp 193) 2, type := 4, pos := "laws.go:537", after := #[{ on := 5, ground := Ground.data }, { on := 12, ground := Ground.data }], guard := none }) (v := ?v2x13) rfl (by kernel_rfl) (by kernel_rfl) (by kernel_rfl) (fun _ _ _ h => h) (Or.inl ⟨by rfl, ?hy2x13⟩) hHeld ?rest2x13
              case hy2x13 => (intro w hSw; (try dsimp only at hSw); go_simp; try with_reducible rfl)
              simp only [Act.put, List.setIfInBounds_toArray, List.set_cons_zero, List.set_cons_succ]
              refine wpAnyH_take (i := 14) (oi := { dst := some 195, op := Op.move (Operand.tmp 194), type := 4, pos := "laws.go:537", after := #[{ on := 13, ground := Ground.data }], guard := none }) (v := ?v2x14) rfl (by kernel_rfl) (by kernel_rfl) (by kernel_rfl) (fun _ _ _ h => h) (Or.inl ⟨by rfl, ?hy2x14⟩) hHeld ?rest2x14
              case hy2x14 => (intro w hSw; (try dsimp only at hSw); go_simp; try with_reducible rfl)
              simp only [Act.put, List.setIfInBounds_toArray, List.set_cons_zero, List.set_cons_succ]
              refine wpAnyH_take (i := 15) (oi := { dst := some 196, op := Op.fieldAddr 33 (Operand.tmp 11) 1, type := 0, pos := "laws.go:537", after := #[{ on := 14, ground := Ground.guard }], guard := some (14, false) }) (v := ?v2x15) rfl (by kernel_rfl) (by kernel_rfl) (by kernel_rfl) (fun _ _ _ h => h) (Or.inl ⟨by rfl, ?hy2x15⟩) hHeld ?rest2x15
              case hy2x15 => (intro w hSw; (try dsimp only at hSw); go_simp; try with_reducible rfl)
              simp only [Act.put, List.setIfInBounds_toArray, List.set_cons_zero, List.set_cons_succ]
              refine wpAnyH_take (i := 16) (oi := { dst := some 197, op := Op.load 31 (Operand.tmp 196), type := 31, pos := "laws.go:537", after := #[{ on := 15, ground := Ground.data }, { on := 14, ground := Ground.guard }], guard := some (14, false) }) (v := ?v2x16) rfl (by kernel_rfl) (by kernel_rfl) (by kernel_rfl) (fun _ _ _ h => h) (Or.inl ⟨by rfl, ?hy2x16⟩) hHeld ?rest2x16
              case hy2x16 => (intro w hSw; (try dsimp only at hSw); go_simp; try with_reducible rfl)
              simp only [Act.put, List.setIfInBounds_toArray, List.set_cons_zero, List.set_cons_succ]
              refine wpAnyH_take (i := 17) (oi := { dst := some 198, op := Op.move (Operand.tmp 13), type := 3, pos := "laws.go:537", after := #[{ on := 14, ground := Ground.guard }], guard := some (14, false) }) (v := ?v2x17) rfl (by kernel_rfl) (by kernel_rfl) (by kernel_rfl) (fun _ _ _ h => h) (Or.inl ⟨by rfl, ?hy2x17⟩) hHeld ?rest2x17
              case hy2x17 => (intro w hSw; (try dsimp only at hSw); go_simp; try with_reducible rfl)
              simp only [Act.put, List.setIfInBounds_toArray, List.set_cons_zero, List.set_cons_succ]
              refine wpAnyH_take (i := 18) (oi := { dst := some 199, op := Op.indexAddr 31 (Operand.tmp 197) (Operand.tmp 198), type := 0, pos := "laws.go:537", after := #[{ on := 16, ground := Ground.data }, { on := 17, ground := Ground.data }, { on := 14, ground := Ground.guard }], guard := some (14, false) }) (v := ?v2x18) rfl (by kernel_rfl) (by kernel_rfl) (by kernel_rfl) (fun _ _ _ h => h) (Or.inl ⟨by rfl, ?hy2x18⟩) hHeld ?rest2x18
              case hy2x18 => (intro w hSw; (try dsimp only at hSw); go_simp; try with_reducible rfl)
              simp only [Act.put, List.setIfInBounds_toArray, List.set_cons_zero, List.set_cons_succ]
              refine wpAnyH_take (i := 19) (oi := { dst := some 200, op := Op.fieldAddr 36 (Operand.tmp 199) 1, type := 0, pos := "laws.go:537", after := #[{ on := 18, ground := Ground.data }, { on := 14, ground := Ground.guard }], guard := some (14, false) }) (v := ?v2x19) rfl (by kernel_rfl) (by kernel_rfl) (by kernel_rfl) (fun _ _ _ h => h) (Or.inl ⟨by rfl, ?hy2x19⟩) hHeld ?rest2x19
              case hy2x19 => (intro w hSw; (try dsimp only at hSw); go_simp; try with_reducible rfl)
              simp only [Act.put, List.setIfInBounds_toArray, List.set_cons_zero, List.set_cons_succ]
              refine wpAnyH_take (i := 20) (oi := { dst := some 201, op := Op.load 9 (Operand.tmp 200), type := 9, pos := "laws.go:537", after := #[{ on := 19, ground := Ground.data }, { on := 14, ground := Ground.guard }], guard := some (14, false) }) (v := ?v2x20) rfl (by kernel_rfl) (by kernel_rfl) (by kernel_rfl) (fun _ _ _ h => h) (Or.inl ⟨by rfl, ?hy2x20⟩) hHeld ?rest2x20
              case hy2x20 => (intro w hSw; (try dsimp only at hSw); go_simp; try with_reducible rfl)
              simp only [Act.put, List.setIfInBounds_toArray, List.set_cons_zero, List.set_cons_succ]
              refine wpAnyH_take (i := 21) (oi := { dst := some 202, op := Op.fieldAddr 33 (Operand.tmp 12) 1, type := 0, pos := "laws.go:537", after := #[{ on := 14, ground := Ground.guard }], guard := some (14, false) }) (v := ?v2x21) rfl (by kernel_rfl) (by kernel_rfl) (by kernel_rfl) (fun _ _ _ h => h) (Or.inl ⟨by rfl, ?hy2x21⟩) hHeld ?rest2x21
              case hy2x21 => (intro w hSw; (try dsimp only at hSw); go_simp; try with_reducible rfl)
              simp only [Act.put, List.setIfInBounds_toArray, List.set_cons_zero, List.set_cons_succ]
              refine wpAnyH_take (i := 22) (oi := { dst := some 203, op := Op.load 31 (Operand.tmp 202), type := 31, pos := "laws.go:537", after := #[{ on := 21, ground := Ground.data }, { on := 14, ground := Ground.guard }], guard := some (14, false) }) (v := ?v2x22) rfl (by kernel_rfl) (by kernel_rfl) (by kernel_rfl) (fun _ _ _ h => h) (Or.inl ⟨by rfl, ?hy2x22⟩) hHeld ?rest2x22
              case hy2x22 => (intro w hSw; (try dsimp only at hSw); go_simp; try with_reducible rfl)
              simp only [Act.put, List.setIfInBounds_toArray, List.set_cons_zero, List.set_cons_succ]
              refine wpAnyH_take (i := 23) (oi := { dst := some 204, op := Op.move (Operand.tmp 13), type := 3, pos := "laws.go:537", after := #[{ on := 14, ground := Ground.guard }], guard := some (14, false) }) (v := ?v2x23) rfl (by kernel_rfl) (by kernel_rfl) (by kernel_rfl) (fun _ _ _ h => h) (Or.inl ⟨by rfl, ?hy2x23⟩) hHeld ?rest2x23
              case hy2x23 => (intro w hSw; (try dsimp only at hSw); go_simp; try with_reducible rfl)
              simp only [Act.put, List.setIfInBounds_toArray, List.set_cons_zero, List.set_cons_succ]
              refine wpAnyH_take (i := 24) (oi := { dst := some 205, op := Op.binOp BinOp.add 3 (Operand.tmp 204) (Operand.const (Value.int IntKind.i64 2)) 3, type := 3, pos := "laws.go:537", after := #[{ on := 23, ground := Ground.data }, { on := 14, ground := Ground.guard }], guard := some (14, false) }) (v := ?v2x24) rfl (by kernel_rfl) (by kernel_rfl) (by kernel_rfl) (fun _ _ _ h => h) (Or.inl ⟨by rfl, ?hy2x24⟩) hHeld ?rest2x24
              case hy2x24 => (intro w hSw; (try dsimp only at hSw); go_simp; try with_reducible rfl)
              simp only [Act.put, List.setIfInBounds_toArray, List.set_cons_zero, List.set_cons_succ]
              refine wpAnyH_take (i := 25) (oi := { dst := some 206, op := Op.indexAddr 31 (Operand.tmp 203) (Operand.tmp 205), type := 0, pos := "laws.go:537", after := #[{ on := 22, ground := Ground.data }, { on := 24, ground := Ground.data }, { on := 14, ground := Ground.guard }], guard := some (14, false) }) (v := ?v2x25) rfl (by kernel_rfl) (by kernel_rfl) (by kernel_rfl) (fun _ _ _ h => h) (Or.inl ⟨by rfl, ?hy2x25⟩) hHeld ?rest2x25
              case hy2x25 => (intro w hSw; (try dsimp only at hSw); go_simp; try with_reducible rfl)
              simp only [Act.put, List.setIfInBounds_toArray, List.set_cons_zero, List.set_cons_succ]
              refine wpAnyH_take (i := 26) (oi := { dst := some 207, op := Op.fieldAddr 36 (Operand.tmp 206) 1, type := 0, pos := "laws.go:537", after := #[{ on := 25, ground := Ground.data }, { on := 14, ground := Ground.guard }], guard := some (14, false) }) (v := ?v2x26) rfl (by kernel_rfl) (by kernel_rfl) (by kernel_rfl) (fun _ _ _ h => h) (Or.inl ⟨by rfl, ?hy2x26⟩) hHeld ?rest2x26
              case hy2x26 => (intro w hSw; (try dsimp only at hSw); go_simp; try with_reducible rfl)
              simp only [Act.put, List.setIfInBounds_toArray, List.set_cons_zero, List.set_cons_succ]
              refine wpAnyH_take (i := 27) (oi := { dst := some 208, op := Op.load 9 (Operand.tmp 207), type := 9, pos := "laws.go:537", after := #[{ on := 26, ground := Ground.data }, { on := 14, ground := Ground.guard }], guard := some (14, false) }) (v := ?v2x27) rfl (by kernel_rfl) (by kernel_rfl) (by kernel_rfl) (fun _ _ _ h => h) (Or.inl ⟨by rfl, ?hy2x27⟩) hHeld ?rest2x27
              case hy2x27 => (intro w hSw; (try dsimp only at hSw); go_simp; try with_reducible rfl)
              simp only [Act.put, List.setIfInBounds_toArray, List.set_cons_zero, List.set_cons_succ]
              refine wpAnyH_take (i := 28) (oi := { dst := some 209, op := Op.binOp BinOp.neq 9 (Operand.tmp 201) (Operand.tmp 208) 9, type := 4, pos := "laws.go:537", after := #[{ on := 20, ground := Ground.data }, { on := 27, ground := Ground.data }, { on := 14, ground := Ground.guard }], guard := some (14, false) }) (v := ?v2x28) rfl (by kernel_rfl) (by kernel_rfl) (by kernel_rfl) (fun _ _ _ h => h) (Or.inl ⟨by rfl, ?hy2x28⟩) hHeld ?rest2x28
              case hy2x28 => (intro w hSw; (try dsimp only at hSw); go_simp; try with_reducible rfl)
              simp only [Act.put, List.setIfInBounds_toArray, List.set_cons_zero, List.set_cons_succ]
              refine wpAnyH_take (i := 29) (oi := { dst := some 210, op := Op.pick (Operand.tmp 195) (Operand.const (Value.bool true)) (Operand.tmp 209), type := 4, pos := "laws.go:537", after := #[{ on := 14, ground := Ground.data }, { on := 28, ground := Ground.data }], guard := none }) (v := ?v2x29) rfl (by kernel_rfl) (by kernel_rfl) (by kernel_rfl) (fun _ _ _ h => h) (Or.inl ⟨by rfl, ?hy2x29⟩) hHeld ?rest2x29
              case hy2x29 => (intro w hSw; (try dsimp only at hSw); go_simp; try with_reducible rfl)
              simp only [Act.put, List.setIfInBounds_toArray, List.set_cons_zero, List.set_cons_succ]
              refine wpAnyH_done (by kernel_rfl) ?_ _
              have BD := hid BX.out.drew
              clear hHeld
              go_wp2_with fail
              go_roundw
              case rel => exact ⟨j + 1, HJ.out, by go_num, BD.out⟩
              case measure => simp [intOf]; have := HJ.out; omega
            · have hjN' : ¬ (j : Int) < (N : Int) := by omega
              have BF := hid (B12.out.trans (BX.out.mono B12.out.size))
              go_wp2_with fail
              go_ret
              exact ⟨rfl, BF.out⟩
end Go.Proofs.YtngkiokibldfjaaGreatDoor
