import Derived.Test.YtmhkelfmciepaaaGrS5
import Derived.Test.YtmhkelfmciepaaaGrO
import Derived.Deep.CutRange
import Derived.Deep.CutBlock
namespace Go.Proofs.Ytmhkelfmciepaaa
open Go.RowKit
set_option linter.unusedVariables false
/-! The specification's l15Copy (by gengr2.py). -/
theorem gPart_step {a b : List Ge} {i : Nat} (h : i ≤ gPart a b) (ha : i < a.length) (hb : i < b.length) (e : (geAt a i).tm = (geAt b i).tm) : i + 1 ≤ gPart a b := by
  induction a generalizing b i with
  | nil => simp at ha
  | cons x a ih =>
    cases b with
    | nil => simp at hb
    | cons y b =>
      cases i with
      | zero =>
        have e0 : x.tm = y.tm := e
        rw [gPart, if_pos e0]
        omega
      | succ i =>
        have q : gPart (x :: a) (y :: b) = gPart a b + 1 := by
          rw [gPart] at h ⊢
          split at h
          · rename_i q; rw [if_pos q]
          · omega
        rw [q] at h ⊢
        have := ih (b := b) (i := i) (by omega) (by simpa using ha) (by simpa using hb) e
        omega
theorem gPart_stop {a b : List Ge} {i : Nat} (h : i ≤ gPart a b) (ha : i < a.length) (hb : i < b.length) (e : (geAt a i).tm ≠ (geAt b i).tm) : gPart a b = i := by
  induction a generalizing b i with
  | nil => simp at ha
  | cons x a ih =>
    cases b with
    | nil => simp at hb
    | cons y b =>
      cases i with
      | zero =>
        have e0 : ¬ x.tm = y.tm := e
        rw [gPart, if_neg e0]
      | succ i =>
        have q : gPart (x :: a) (y :: b) = gPart a b + 1 := by
          rw [gPart] at h ⊢
          split at h
          · rename_i q; rw [if_pos q]
          · omega
        rw [q] at h ⊢
        rw [ih (b := b) (i := i) (by omega) (by simpa using ha) (by simpa using hb) e]
theorem gNext_stop {a b : List Ge} {i : Nat} (h : i ≤ gPart a b) (ha : i < a.length) (hb : i < b.length) (e : (geAt a i).tm ≠ (geAt b i).tm) : a.take i ++ b.drop i = gNext a b := by
  unfold gNext
  rw [gPart_stop h ha hb e, if_neg (by omega)]
theorem gNext_end {a b : List Ge} {i : Nat} (h : i ≤ gPart a b) (hi : ¬ i < a.length ∨ ¬ i < b.length) : a.take a.length ++ b.drop a.length = gNext a b := by
  have := gPart_le a b
  unfold gNext
  by_cases e : gPart a b = b.length
  · rw [if_pos e, List.take_length, List.drop_eq_nil_of_le (by omega), List.append_nil]
  · rw [if_neg e, show gPart a b = a.length by omega]
theorem take_more (A B : List Ge) {i n : Nat} (hn : n ≤ i) (hi : i < B.length) : A ++ (B.drop n).take (i + 1 - n) = (A ++ (B.drop n).take (i - n)) ++ [geAt B i] := by
  rw [show i + 1 - n = (i - n) + 1 by omega, List.take_succ_eq_append_getElem (by rw [List.length_drop]; omega), ← List.append_assoc]
  congr 2
  rw [List.getElem_drop]
  unfold geAt
  rw [List.getD_eq_getElem?_getD, List.getElem?_eq_getElem hi]
  simp [show n + (i - n) = i by omega]
theorem take_whole (A B : List Ge) {i n : Nat} (hn : n ≤ i) (hi : B.length ≤ i) : A ++ (B.drop n).take (i - n) = A ++ B.drop n := by
  rw [List.take_of_length_le (by rw [List.length_drop]; omega)]
theorem copy_state {s st : Gst} {q k : Nat} {m1 m2 : Mb} (hk : st k = m1) (hq : st q = m2) (qk : q ≠ k) (h1 : ∀ j, j ≠ q → j ≠ k → st j = s j) : st = putM (putM s k m1) q m2 := by
  funext j
  by_cases e : j = q
  · rw [e, putM_self]; exact hq
  · rw [putM_ne _ _ _ e]
    by_cases e2 : j = k
    · rw [e2, putM_self]; exact hk
    · rw [putM_ne _ _ _ e2]; exact h1 j e e2
set_option maxRecDepth 20000 in
set_option maxHeartbeats 8000000 in
theorem sCopy (w0 : World) (b N k : Nat) (hN : N ≤ 9) (hk : k < N) (s : Gst) (hT : ∀ j, j < N → 0 ≤ (s j).tm ∧ (s j).tm ≤ 1000000 ∧ (s j).lg.length ≤ 500) (kd dt : Int) (pa : Option Addr) (pc : Nat) (pe : List Int) (tx : ByteArray) (w : World) (h : SpAt w w0.heap.size b N s) (hb : Below w0.heap.size w0 w) :
    Calls Try.prog 26 #[.slice (some ⟨b, 0, none⟩) N N, .agg #[.int .i64 kd, .int .i64 (k : Int), .int .i64 dt, .slice pa pe.length pc, .string tx]] w fun e w' => e = .returned (gv (gCopy N s k dt).2) ∧ SpAt w' w0.heap.size b N (gCopy N s k dt).1 ∧ Below w0.heap.size w0 w' ∧ Kp w w' := by
  obtain ⟨la, lc, mb, h⟩ := h
  have hBb := h.hB
  have hbl := h.row.lt
  have hH : Hid (∀ j, j < N → mb j < w.heap.size) := fun j hj => (h.mat j hj).1.lt
  have HT := hid hT
  obtain ⟨G1, hG1⟩ : ∃ G, G = (gCopy N s k dt).1 := ⟨_, rfl⟩
  obtain ⟨G2, hG2⟩ : ∃ G, G = (gCopy N s k dt).2 := ⟨_, rfl⟩
  rw [← hG1, ← hG2]
  have HG1 := hid hG1
  have HG2 := hid hG2
  clear hG1 hG2
  obtain ⟨X3, hX3⟩ : ∃ X, X = w.heap.size := ⟨_, rfl⟩
  have hw0 := hb.size
  have hwX : Hid (w.heap.size ≤ X3) := by rw [hX3]; exact Nat.le_refl _
  obtain ⟨W1, hW1⟩ : ∃ W, W = (w.alloc (.cells #[.int .i64 kd, .int .i64 (k : Int), .int .i64 dt, .slice pa pe.length pc, .string tx] 42)).alloc (.cells #[.int .i64 0, .int .i64 0, .int .i64 0] 34) := ⟨_, rfl⟩
  have b1 : Below w.heap.size w W1 := by rw [hW1]; exact ((Below.refl _ _).alloc (Nat.le_refl _) _).alloc (by simp) _
  obtain ⟨OVv, hOV⟩ : ∃ o : Array Value, o = #[.int .i64 kd, .int .i64 (k : Int), .int .i64 dt, .slice pa pe.length pc, .string tx] := ⟨_, rfl⟩
  have HOV := hid hOV
  have P1 : Hid (RowAt W1 X3 42 OVv) := by rw [hW1, hX3, hOV]; exact (RowAt.new _ _ _).alloc _
  have R1 : Hid (RowAt W1 (X3 + 1) 34 #[.int .i64 0, .int .i64 0, .int .i64 0]) := by rw [hW1, hX3]; exact RowAt.next _ _ _ (by simp only [size_al])
  have V1 : Hid (Kp w W1) := (Kp.refl w).below b1
  have S1 := hid (h.below b1)
  have B1 := hid (hb.trans (b1.mono hb.size))
  have sz1 : Hid (W1.heap.size = X3 + 2) := by rw [hW1, hX3]; show _ = _; simp only [size_al]
  have HW1 := hid hW1
  have HX3 := hid hX3
  have lX3 : b < X3 := by omega
  have HBX : Hid (w0.heap.size ≤ X3) := by rw [hX3]; exact hw0
  have hH3 : Hid (∀ j, j < N → mb j < X3) := by rw [hX3]; exact hH.out
  have kN : (k : Int) < (N : Int) := by omega
  have k0 : (0 : Int) ≤ (k : Int) := by omega
  clear hOV hW1 b1 hX3 h hb hT hbl hH
  go_enter Try.func26, Try.ntmps26
  go_upto_region 1 with fail
  rw [← HW1.out, ← HX3.out]
  clear HW1 HX3
  have p1 : W1.cell? ⟨X3, 1, none⟩ = some (.int .i64 (k : Int)) := by rw [P1.out.cell, HOV.out]; rfl
  have p2 : W1.cell? ⟨X3, 2, none⟩ = some (.int .i64 dt) := by rw [P1.out.cell, HOV.out]; rfl
  by_cases ha : dt < 0
  · have HR : Hid (G1 = s ∧ G2 = ⟨1, 0, 0⟩) := by
      have q : gCopy N s k dt = (s, ⟨1, 0, 0⟩) := by unfold gCopy; rw [if_pos (.inl (by unfold gIn; simp; omega))]
      rw [HG1.out, HG2.out, q]
      exact ⟨rfl, rfl⟩
    go_upto_region 4 with fail
    go_wp2_with (refine wpList_store_row rfl 34 (.tmp 4) (.tmp 29) rfl (X3 + 1) #[.int .i64 1, .int .i64 0, .int .i64 0] rfl rfl _ _ R1.out (by kernel_rfl) rfl (by simp [Value.oneCell']) ?_)
    try simp only [Exit.inBlock, Exit.then]
    refine bodyPost_ret (v := .agg #[.int .i64 1, .int .i64 0, .int .i64 0]) ?_ rfl ⟨by rw [HR.out.2], ⟨la, lc, mb, by rw [HR.out.1]; exact S1.out.aside R1.out (by decide) (by decide) (by decide) _⟩, below_setRow B1.out _ _ (by have := HBX.out; omega), V1.out.setRow (Nat.le_trans hwX.out (Nat.le_add_right _ _)) _⟩
    exact results_cell_row Try.results26 _ _ (X3 + 1) _ _ _ _ rfl (R1.out.setRow _) Try.underlying34 rfl (by kernel_rfl)
  by_cases hn : (N : Int) ≤ dt
  · have HR : Hid (G1 = s ∧ G2 = ⟨1, 0, 0⟩) := by
      have q : gCopy N s k dt = (s, ⟨1, 0, 0⟩) := by unfold gCopy; rw [if_pos (.inl (by unfold gIn; simp; omega))]
      rw [HG1.out, HG2.out, q]
      exact ⟨rfl, rfl⟩
    go_upto_region 4 with fail
    go_wp2_with (refine wpList_store_row rfl 34 (.tmp 4) (.tmp 29) rfl (X3 + 1) #[.int .i64 1, .int .i64 0, .int .i64 0] rfl rfl _ _ R1.out (by kernel_rfl) rfl (by simp [Value.oneCell']) ?_)
    try simp only [Exit.inBlock, Exit.then]
    refine bodyPost_ret (v := .agg #[.int .i64 1, .int .i64 0, .int .i64 0]) ?_ rfl ⟨by rw [HR.out.2], ⟨la, lc, mb, by rw [HR.out.1]; exact S1.out.aside R1.out (by decide) (by decide) (by decide) _⟩, below_setRow B1.out _ _ (by have := HBX.out; omega), V1.out.setRow (Nat.le_trans hwX.out (Nat.le_add_right _ _)) _⟩
    exact results_cell_row Try.results26 _ _ (X3 + 1) _ _ _ _ rfl (R1.out.setRow _) Try.underlying34 rfl (by kernel_rfl)
  by_cases hd : dt = (k : Int)
  · have d1 : (dt == (k : Int)) = true := by rw [beq_iff_eq]; exact hd
    have HD := hid hd
    clear hd
    have HR : Hid (G1 = s ∧ G2 = ⟨1, 0, 0⟩) := by
      have q : gCopy N s k dt = (s, ⟨1, 0, 0⟩) := by unfold gCopy; rw [if_pos (.inr HD.out)]
      rw [HG1.out, HG2.out, q]
      exact ⟨rfl, rfl⟩
    go_upto_region 4 with fail
    go_wp2_with (refine wpList_store_row rfl 34 (.tmp 4) (.tmp 29) rfl (X3 + 1) #[.int .i64 1, .int .i64 0, .int .i64 0] rfl rfl _ _ R1.out (by kernel_rfl) rfl (by simp [Value.oneCell']) ?_)
    try simp only [Exit.inBlock, Exit.then]
    refine bodyPost_ret (v := .agg #[.int .i64 1, .int .i64 0, .int .i64 0]) ?_ rfl ⟨by rw [HR.out.2], ⟨la, lc, mb, by rw [HR.out.1]; exact S1.out.aside R1.out (by decide) (by decide) (by decide) _⟩, below_setRow B1.out _ _ (by have := HBX.out; omega), V1.out.setRow (Nat.le_trans hwX.out (Nat.le_add_right _ _)) _⟩
    exact results_cell_row Try.results26 _ _ (X3 + 1) _ _ _ _ rfl (R1.out.setRow _) Try.underlying34 rfl (by kernel_rfl)
  have d1 : (dt == (k : Int)) = false := by rw [beq_eq_false_iff_ne]; exact hd
  obtain ⟨q, rfl⟩ := Int.eq_ofNat_of_zero_le (show 0 ≤ dt by omega)
  have qN : q < N := by omega
  have qk : q ≠ k := by omega
  have q0 : (0 : Int) ≤ (q : Int) := by omega
  have NB : Hid (¬ (gIn N (q : Int) = false ∨ (q : Int) = (k : Int))) := fun e => by
    rcases e with e | e
    · unfold gIn at e; simp at e; omega
    · omega
  clear hd
  have c2 := (S1.out.cells hk).2.2.1
  cases hld : (s k).ld with
  | false =>
    rw [hld] at c2
    have HR : Hid (G1 = s ∧ G2 = ⟨6, 0, 0⟩) := by
      have q : gCopy N s k (q : Int) = (s, ⟨6, 0, 0⟩) := by unfold gCopy; rw [if_neg NB.out, if_pos hld]
      rw [HG1.out, HG2.out, q]
      exact ⟨rfl, rfl⟩
    clear hld
    go_upto_region 6 with fail
    go_wp2_with (refine wpList_store_row rfl 34 (.tmp 4) (.tmp 36) rfl (X3 + 1) #[.int .i64 6, .int .i64 0, .int .i64 0] rfl rfl _ _ R1.out (by kernel_rfl) rfl (by simp [Value.oneCell']) ?_)
    try simp only [Exit.inBlock, Exit.then]
    refine bodyPost_ret (v := .agg #[.int .i64 6, .int .i64 0, .int .i64 0]) ?_ rfl ⟨by rw [HR.out.2], ⟨la, lc, mb, by rw [HR.out.1]; exact S1.out.aside R1.out (by decide) (by decide) (by decide) _⟩, below_setRow B1.out _ _ (by have := HBX.out; omega), V1.out.setRow (Nat.le_trans hwX.out (Nat.le_add_right _ _)) _⟩
    exact results_cell_row Try.results26 _ _ (X3 + 1) _ _ _ _ rfl (R1.out.setRow _) Try.underlying34 rfl (by kernel_rfl)
  | true =>
    rw [hld] at c2
    have HLD := hid hld
    clear hld
    obtain ⟨TQ, hTQ⟩ : ∃ T, T = (s q).tm := ⟨_, rfl⟩
    obtain ⟨TC, hTC⟩ : ∃ T, T = (s k).tm := ⟨_, rfl⟩
    have cq0 := (S1.out.cells qN).1
    have ck0 := (S1.out.cells hk).1
    rw [← hTQ] at cq0
    rw [← hTC] at ck0
    have HTQ := hid hTQ
    have HTC := hid hTC
    clear hTQ hTC
    go_upto_region 7 with fail
    clear c2 p1 p2
    by_cases hgt : TC < TQ
    · have HR : Hid (G1 = putM s k { s k with tm := TQ, vt := -1, ld := false } ∧ G2 = ⟨13, 0, 0⟩) := by
        have q : gCopy N s k (q : Int) = (putM s k { s k with tm := TQ, vt := -1, ld := false }, ⟨13, 0, 0⟩) := by unfold gCopy; rw [if_neg NB.out, if_neg (by rw [HLD.out]; exact Bool.noConfusion), if_pos (by rw [Int.toNat_natCast, ← HTQ.out, ← HTC.out]; exact hgt), Int.toNat_natCast, ← HTQ.out]
        rw [HG1.out, HG2.out, q]
        exact ⟨rfl, rfl⟩
      go_quiet (fail)
      obtain ⟨W2, hW2⟩ : ∃ W, W = W1.drewN nq := ⟨_, rfl⟩
      have S2 : Hid (SpL W2 w0.heap.size b N s la lc mb) := by rw [hW2]; exact S1.out.below (below_drewN' (Below.refl _ _) nq)
      have P2 : Hid (RowAt W2 X3 42 OVv) := by rw [hW2]; exact P1.out
      have R2 : Hid (RowAt W2 (X3 + 1) 34 #[.int .i64 0, .int .i64 0, .int .i64 0]) := by rw [hW2]; exact R1.out
      have V2 : Hid (Kp w W2) := by rw [hW2]; exact ⟨V1.out.size, V1.out.row⟩
      have B2 : Hid (Below w0.heap.size w0 W2) := by rw [hW2]; exact below_drewN' B1.out nq
      have sz2 : Hid (W2.heap.size = W1.heap.size) := by rw [hW2]; exact rfl
      rw [← hW2]
      clear hW2 S1 P1 R1 V1 B1 nq
      go_upto_region 8 with fail
      clear cq0 ck0
      have cq0 := (S2.out.cells qN).1.trans (by rw [← HTQ.out])
      obtain ⟨W3, hW3⟩ : ∃ W, W = W2.setCell ⟨b, k * 6, none⟩ (.int .i64 TQ) := ⟨_, rfl⟩
      have S3 : Hid (SpL W3 w0.heap.size b N (putM s k { s k with tm := TQ }) la lc mb) := by
        rw [hW3]
        exact S2.out.setTm k TQ
      have P3 : Hid (RowAt W3 X3 42 OVv) := by rw [hW3]; exact P2.out.other _ _ (by simp; omega)
      have R3 : Hid (RowAt W3 (X3 + 1) 34 #[.int .i64 0, .int .i64 0, .int .i64 0]) := by rw [hW3]; exact R2.out.other _ _ (by simp; omega)
      have V3 : Hid (Kp w W3) := by rw [hW3]; exact S2.out.keep V2.out _ _
      have B3 : Hid (Below w0.heap.size w0 W3) := by rw [hW3]; exact B2.out.setCell hBb _
      have sz3 : Hid (W3.heap.size = W2.heap.size) := by rw [hW3]; show _ = _; simp [World.setCell]
      have y2 := (S2.out.cells hk).1
      have f2 := S2.out.row.free (k * 6)
      have HW3 := hid hW3
      clear hW3
      go_upto_region 9 with fail
      rw [← HW3.out]
      clear HW3 y2 f2 P2 R2 V2 B2 S2 
      clear cq0
      obtain ⟨W4, hW4⟩ : ∃ W, W = W3.setCell ⟨b, k * 6 + 1, none⟩ (.int .i64 (-1)) := ⟨_, rfl⟩
      have S4 : Hid (SpL W4 w0.heap.size b N (putM s k { s k with tm := TQ, vt := -1 }) la lc mb) := by
        rw [hW4]
        have z := S3.out.setVt k (-1)
        rw [putM_self, putM_putM] at z
        exact z
      have P4 : Hid (RowAt W4 X3 42 OVv) := by rw [hW4]; exact P3.out.other _ _ (by simp; omega)
      have R4 : Hid (RowAt W4 (X3 + 1) 34 #[.int .i64 0, .int .i64 0, .int .i64 0]) := by rw [hW4]; exact R3.out.other _ _ (by simp; omega)
      have V4 : Hid (Kp w W4) := by rw [hW4]; exact S3.out.keep V3.out _ _
      have B4 : Hid (Below w0.heap.size w0 W4) := by rw [hW4]; exact B3.out.setCell hBb _
      have sz4 : Hid (W4.heap.size = W3.heap.size) := by rw [hW4]; show _ = _; simp [World.setCell]
      have y3 := (S3.out.cells hk).2.1
      have f3 := S3.out.row.free (k * 6 + 1)
      have HW4 := hid hW4
      clear hW4
      go_upto_region 10 with fail
      rw [← HW4.out]
      clear HW4 y3 f3 P3 R3 V3 B3 S3 
      obtain ⟨W5, hW5⟩ : ∃ W, W = W4.setCell ⟨b, k * 6 + 2, none⟩ (.bool false) := ⟨_, rfl⟩
      have S5 : Hid (SpL W5 w0.heap.size b N (putM s k { s k with tm := TQ, vt := -1, ld := false }) la lc mb) := by
        rw [hW5]
        have z := S4.out.setLd k false
        rw [putM_self, putM_putM] at z
        exact z
      have P5 : Hid (RowAt W5 X3 42 OVv) := by rw [hW5]; exact P4.out.other _ _ (by simp; omega)
      have R5 : Hid (RowAt W5 (X3 + 1) 34 #[.int .i64 0, .int .i64 0, .int .i64 0]) := by rw [hW5]; exact R4.out.other _ _ (by simp; omega)
      have V5 : Hid (Kp w W5) := by rw [hW5]; exact S4.out.keep V4.out _ _
      have B5 : Hid (Below w0.heap.size w0 W5) := by rw [hW5]; exact B4.out.setCell hBb _
      have sz5 : Hid (W5.heap.size = W4.heap.size) := by rw [hW5]; show _ = _; simp [World.setCell]
      have y4 := (S4.out.cells hk).2.2.1
      have f4 := S4.out.row.free (k * 6 + 2)
      have HW5 := hid hW5
      clear hW5
      go_upto_region 11 with fail
      rw [← HW5.out]
      clear HW5 y4 f4 P4 R4 V4 B4 S4 
      go_upto_region 11 with fail
      go_wp2_with (refine wpList_store_row rfl 34 (.tmp 4) (.tmp 65) rfl (X3 + 1) #[.int .i64 13, .int .i64 0, .int .i64 0] rfl rfl _ _ R5.out (by kernel_rfl) rfl (by simp [Value.oneCell']) ?_)
      try simp only [Exit.inBlock, Exit.then]
      refine bodyPost_ret (v := .agg #[.int .i64 13, .int .i64 0, .int .i64 0]) ?_ rfl ⟨by rw [HR.out.2], ⟨la, lc, mb, by rw [HR.out.1]; exact S5.out.aside R5.out (by decide) (by decide) (by decide) _⟩, below_setRow B5.out _ _ (by have := HBX.out; omega), V5.out.setRow (Nat.le_trans hwX.out (Nat.le_add_right _ _)) _⟩
      exact results_cell_row Try.results26 _ _ (X3 + 1) _ _ _ _ rfl (R5.out.setRow _) Try.underlying34 rfl (by kernel_rfl)
    · go_quiet (fail)
      obtain ⟨W2, hW2⟩ : ∃ W, W = W1.drewN nq := ⟨_, rfl⟩
      have S2 : Hid (SpL W2 w0.heap.size b N s la lc mb) := by rw [hW2]; exact S1.out.below (below_drewN' (Below.refl _ _) nq)
      have P2 : Hid (RowAt W2 X3 42 OVv) := by rw [hW2]; exact P1.out
      have R2 : Hid (RowAt W2 (X3 + 1) 34 #[.int .i64 0, .int .i64 0, .int .i64 0]) := by rw [hW2]; exact R1.out
      have V2 : Hid (Kp w W2) := by rw [hW2]; exact ⟨V1.out.size, V1.out.row⟩
      have B2 : Hid (Below w0.heap.size w0 W2) := by rw [hW2]; exact below_drewN' B1.out nq
      have sz2 : Hid (W2.heap.size = W1.heap.size) := by rw [hW2]; exact rfl
      rw [← hW2]
      clear hW2 S1 P1 R1 V1 B1 nq
      go_upto_region 12 with fail
      clear cq0 ck0
      have cq0 := (S2.out.cells qN).1.trans (by rw [← HTQ.out])
      have ck0 := (S2.out.cells hk).1.trans (by rw [← HTC.out])
      obtain ⟨VV, hVV⟩ : ∃ v : Int, v = if TQ < TC then -1 else (s q).vt := ⟨_, rfl⟩
      have HVV := hid hVV
      clear hVV
      go_quiet (fail)
      obtain ⟨W3, hW3⟩ : ∃ W, W = W2.drewN nq := ⟨_, rfl⟩
      have S3 : Hid (SpL W3 w0.heap.size b N s la lc mb) := by rw [hW3]; exact S2.out.below (below_drewN' (Below.refl _ _) nq)
      have P3 : Hid (RowAt W3 X3 42 OVv) := by rw [hW3]; exact P2.out
      have R3 : Hid (RowAt W3 (X3 + 1) 34 #[.int .i64 0, .int .i64 0, .int .i64 0]) := by rw [hW3]; exact R2.out
      have V3 : Hid (Kp w W3) := by rw [hW3]; exact ⟨V2.out.size, V2.out.row⟩
      have B3 : Hid (Below w0.heap.size w0 W3) := by rw [hW3]; exact below_drewN' B2.out nq
      have sz3 : Hid (W3.heap.size = W2.heap.size) := by rw [hW3]; exact rfl
      rw [← hW3]
      clear hW3 S2 P2 R2 V2 B2 nq
      go_upto_if 76 with fail
      clear cq0 ck0
      go_cut [] from 66 to 89 (fun wx => SpL wx w0.heap.size b N (putM s q { s q with tm := TC, vt := VV }) la lc mb ∧ RowAt wx X3 42 OVv ∧ RowAt wx (X3 + 1) 34 #[.int .i64 0, .int .i64 0, .int .i64 0] ∧ Kp w wx ∧ Below w0.heap.size w0 wx ∧ wx.heap.size = X3 + 2)
      case first =>
        have e3 : Hid (W3.heap.size = X3 + 2) := hid (by rw [sz3.out, sz2.out, sz1.out])
        by_cases hlt : TQ < TC
        · have d2 : decide (TQ < TC) = true := decide_eq_true hlt
          have EV : Hid (VV = -1) := hid (by rw [HVV.out, if_pos hlt])
          have ck0 := (S3.out.cells hk).1.trans (by rw [← HTC.out])
          obtain ⟨W4, hW4⟩ : ∃ W, W = W3.setCell ⟨b, q * 6, none⟩ (.int .i64 TC) := ⟨_, rfl⟩
          have S4 : Hid (SpL W4 w0.heap.size b N (putM s q { s q with tm := TC }) la lc mb) := by
            rw [hW4]
            exact S3.out.setTm q TC
          have P4 : Hid (RowAt W4 X3 42 OVv) := by rw [hW4]; exact P3.out.other _ _ (by simp; omega)
          have R4 : Hid (RowAt W4 (X3 + 1) 34 #[.int .i64 0, .int .i64 0, .int .i64 0]) := by rw [hW4]; exact R3.out.other _ _ (by simp; omega)
          have V4 : Hid (Kp w W4) := by rw [hW4]; exact S3.out.keep V3.out _ _
          have B4 : Hid (Below w0.heap.size w0 W4) := by rw [hW4]; exact B3.out.setCell hBb _
          have sz4 : Hid (W4.heap.size = W3.heap.size) := by rw [hW4]; show _ = _; simp [World.setCell]
          have y3 := (S3.out.cells qN).1
          have f3 := S3.out.row.free (q * 6)
          have HW4 := hid hW4
          clear hW4
          go_upto_region 14 with fail
          rw [← HW4.out]
          clear HW4 y3 f3 P3 R3 V3 B3 S3 
          clear ck0
          obtain ⟨W5, hW5⟩ : ∃ W, W = W4.setCell ⟨b, q * 6 + 1, none⟩ (.int .i64 (-1)) := ⟨_, rfl⟩
          have S5 : Hid (SpL W5 w0.heap.size b N (putM s q { s q with tm := TC, vt := VV }) la lc mb) := by
            have z := S4.out.setVt q (-1)
            rw [putM_self, putM_putM] at z
            rw [hW5, EV.out]
            exact z
          have P5 : Hid (RowAt W5 X3 42 OVv) := by rw [hW5]; exact P4.out.other _ _ (by simp; omega)
          have R5 : Hid (RowAt W5 (X3 + 1) 34 #[.int .i64 0, .int .i64 0, .int .i64 0]) := by rw [hW5]; exact R4.out.other _ _ (by simp; omega)
          have V5 : Hid (Kp w W5) := by rw [hW5]; exact S4.out.keep V4.out _ _
          have B5 : Hid (Below w0.heap.size w0 W5) := by rw [hW5]; exact B4.out.setCell hBb _
          have e5 : Hid (W5.heap.size = X3 + 2) := hid (by rw [hW5, ← e3.out, ← sz4.out]; simp [World.setCell])
          have y4 := (S4.out.cells qN).2.1
          have f4 := S4.out.row.free (q * 6 + 1)
          have HW5 := hid hW5
          clear hW5
          go_wp2_with fail
          go_meet
          case rel => rw [← HW5.out]; exact ⟨S5.out, P5.out, R5.out, V5.out, B5.out, e5.out⟩
        · have d2 : decide (TQ < TC) = false := decide_eq_false hlt
          have eT : Hid (TQ = TC) := hid (by omega)
          have SZ : Hid (SpL W3 w0.heap.size b N (putM s q { s q with tm := TC, vt := VV }) la lc mb) := by
            have e : putM s q { s q with tm := TC, vt := VV } = s := by
              rw [HVV.out, if_neg hlt, ← eT.out, HTQ.out]
              exact putM_same s q
            rw [e]
            exact S3.out
          go_wp2_with fail
          go_meet
          case rel => exact ⟨SZ.out, P3.out, R3.out, V3.out, B3.out, e3.out⟩
      case rest =>
        obtain ⟨hS6, hP6, hR6, hV6, hB6, hz6⟩ := hcut
        have S6 := hid hS6
        have P6 := hid hP6
        have R6 := hid hR6
        have V6 := hid hV6
        have B6 := hid hB6
        have sz6 := hid hz6
        obtain ⟨W6, hW6⟩ : ∃ W, W = wc := ⟨_, rfl⟩
        rw [← hW6] at S6 P6 R6 V6 B6 sz6 ⊢
        clear hS6 hP6 hR6 hV6 hB6 hz6 hW6 S3 P3 R3 V3 B3 sz3
        go_upto_region 15 with fail
        obtain ⟨W7, hW7⟩ : ∃ W, W = W6.setCell ⟨b, q * 6 + 2, none⟩ (.bool false) := ⟨_, rfl⟩
        have S7 : Hid (SpL W7 w0.heap.size b N (putM s q { s q with tm := TC, vt := VV, ld := false }) la lc mb) := by
          rw [hW7]
          have z := S6.out.setLd q false
          rw [putM_self, putM_putM] at z
          exact z
        have P7 : Hid (RowAt W7 X3 42 OVv) := by rw [hW7]; exact P6.out.other _ _ (by simp; omega)
        have R7 : Hid (RowAt W7 (X3 + 1) 34 #[.int .i64 0, .int .i64 0, .int .i64 0]) := by rw [hW7]; exact R6.out.other _ _ (by simp; omega)
        have V7 : Hid (Kp w W7) := by rw [hW7]; exact S6.out.keep V6.out _ _
        have B7 : Hid (Below w0.heap.size w0 W7) := by rw [hW7]; exact B6.out.setCell hBb _
        have sz7 : Hid (W7.heap.size = W6.heap.size) := by rw [hW7]; show _ = _; simp [World.setCell]
        have y6 := (S6.out.cells qN).2.2.1
        have f6 := S6.out.row.free (q * 6 + 2)
        have HW7 := hid hW7
        clear hW7
        go_upto_region 16 with fail
        rw [← HW7.out]
        clear HW7 y6 f6 P6 R6 V6 B6 S6 
        obtain ⟨st, hst⟩ : ∃ x, x = putM s q { s q with tm := TC, vt := VV, ld := false } := ⟨_, rfl⟩
        rw [← hst] at S7
        have HST := hid hst
        have sq : Hid (st q = { s q with tm := TC, vt := VV, ld := false }) := hid (by rw [hst, putM_self])
        have sk : Hid (st k = s k) := hid (by rw [hst, putM_ne _ _ _ (Ne.symm qk)])
        clear hst
        obtain ⟨LQ, hLQ⟩ : ∃ l, l = (s q).lg := ⟨_, rfl⟩
        obtain ⟨LK, hLK⟩ : ∃ l, l = (s k).lg := ⟨_, rfl⟩
        have zq := (S7.out.cells qN).2.2.2.2.1
        have zk := (S7.out.cells hk).2.2.2.2.1
        have lq := S7.out.log q qN
        have lk := S7.out.log k hk
        rw [sq.out] at zq lq
        rw [sk.out] at zk lk
        dsimp only at zq lq
        rw [← hLQ] at zq lq
        rw [← hLK] at zk lk
        have lqn : LQ.length ≤ 500 := by rw [hLQ]; exact (HT.out q qN).2.2
        have lkn : LK.length ≤ 500 := by rw [hLK]; exact (HT.out k hk).2.2
        have HLQ := hid hLQ
        have HLK := hid hLK
        have KQ := hid lq
        have KK := hid lk
        clear hLQ hLK lq lk
        generalize la q = aq at zq KQ
        generalize lc q = cq at zq KQ
        generalize la k = ak at zk KK
        generalize lc k = ck at zk KK
        go_upto_block 0 with fail
        go_cut [7, 8] from 100 to 139 (fun y7 y8 wx => ∃ n : Nat, n ≤ LQ.length ∧ y7 = .int .i64 (n : Int) ∧ LQ.take n ++ LK.drop n = gNext LQ LK ∧ SpL wx w0.heap.size b N st la lc mb ∧ RowAt wx X3 42 OVv ∧ RowAt wx (X3 + 1) 34 #[.int .i64 0, .int .i64 0, .int .i64 0] ∧ Kp w wx ∧ Below w0.heap.size w0 wx ∧ wx.heap.size = X3 + 2 ∧ Below W7.heap.size W7 wx)
        case first =>
          go_wp2_with fail
          go_loopw [7, 8] (fun y7 y8 wx => y7 = .int .i64 (LQ.length : Int) ∧ ∃ i : Nat, i ≤ gPart LQ LK ∧ y8 = .int .i64 (i : Int) ∧ SpL wx w0.heap.size b N st la lc mb ∧ RowAt wx X3 42 OVv ∧ RowAt wx (X3 + 1) 34 #[.int .i64 0, .int .i64 0, .int .i64 0] ∧ Kp w wx ∧ Below w0.heap.size w0 wx ∧ wx.heap.size = X3 + 2 ∧ Below W7.heap.size W7 wx) (fun _ y8 _ => LQ.length - (intOf y8).toNat)
          case atStart => exact ⟨rfl, 0, Nat.zero_le _, rfl, S7.out, P7.out, R7.out, V7.out, B7.out, by rw [sz7.out, sz6.out], Below.refl _ _⟩
          case round =>
            obtain ⟨rfl, i, hi, rfl, hS, hP, hR, hV, hB, hZ, hW⟩ := hrel
            have Sx := hid hS
            have Px := hid hP
            have Rx := hid hR
            have Vx := hid hV
            have Bx := hid hB
            have Zx := hid hZ
            have Wx := hid hW
            clear hS hP hR hV hB hZ
            have gp := gPart_le LQ LK
            have vq := (hW.cell (p := ⟨b, q * 6 + 4, none⟩) S7.out.row.lt).trans zq
            have vk := (hW.cell (p := ⟨b, k * 6 + 4, none⟩) S7.out.row.lt).trans zk
            have Kq := hid (KQ.out.below hW)
            have Kk := hid (KK.out.below hW)
            clear hW
            by_cases h1 : i < LQ.length
            · have g1 : decide ((i : Int) < (LQ.length : Int)) = true := decide_eq_true (by omega)
              by_cases h2 : i < LK.length
              · have g2 : decide ((i : Int) < (LK.length : Int)) = true := decide_eq_true (by omega)
                have i1 : (i : Int) < (LQ.length : Int) := by omega
                have i2 : (i : Int) < (LK.length : Int) := by omega
                have i0 : (0 : Int) ≤ (i : Int) := by omega
                rcases Kq.out.2 with ⟨h00, _⟩ | ⟨gq, cs, hA, hr, hcs⟩
                · omega
                rcases Kk.out.2 with ⟨h00, _⟩ | ⟨gk, ds, hA2, hr2, hds⟩
                · omega
                have l0 := (hr.cell (i * 2)).trans (hcs i h1).1
                have l1 := (hr2.cell (i * 2)).trans (hds i h2).1
                obtain ⟨t1, ht1⟩ : ∃ t, t = (geAt LQ i).tm := ⟨_, rfl⟩
                obtain ⟨t2, ht2⟩ : ∃ t, t = (geAt LK i).tm := ⟨_, rfl⟩
                rw [← ht1] at l0
                rw [← ht2] at l1
                have HT1 := hid ht1
                have HT2 := hid ht2
                have HA1 := hid hA
                have HA2 := hid hA2
                rw [hA] at vq
                rw [hA2] at vk
                clear hr hr2 hcs hds ht1 ht2 hA hA2
                by_cases he : t1 = t2
                · have d5 : (t1 != t2) = false := by rw [bne_eq_false_iff_eq]; exact he
                  have GN : Hid (i + 1 ≤ gPart LQ LK) := gPart_step hi h1 h2 (by rw [← HT1.out, ← HT2.out]; exact he)
                  clear he
                  go_wp2_with fail
                  go_quiet (fail)
                  go_wp2
                  go_roundw
                  case rel => exact ⟨rfl, i + 1, GN.out, by go_num, Sx.out.below (below_drewN' (Below.refl _ _) nq), Px.out, Rx.out, ⟨Vx.out.size, Vx.out.row⟩, below_drewN' Bx.out nq, Zx.out, below_drewN' Wx.out nq⟩
                  case measure => simp [intOf]; omega
                · have d5 : (t1 != t2) = true := by rw [bne_iff_ne]; exact he
                  have GN : Hid (LQ.take i ++ LK.drop i = gNext LQ LK) := gNext_stop hi h1 h2 (by rw [← HT1.out, ← HT2.out]; exact he)
                  clear he
                  go_wp2_with fail
                  go_quiet (fail)
                  go_wp2
                  go_meet
                  case rel => exact ⟨i, by omega, rfl, GN.out, Sx.out.below (below_drewN' (Below.refl _ _) nq), Px.out, Rx.out, ⟨Vx.out.size, Vx.out.row⟩, below_drewN' Bx.out nq, Zx.out, below_drewN' Wx.out nq⟩
              · have g2 : decide ((i : Int) < (LK.length : Int)) = false := decide_eq_false (by omega)
                have GN : Hid (LQ.take LQ.length ++ LK.drop LQ.length = gNext LQ LK) := gNext_end hi (.inr h2)
                go_wp2
                go_meet
                case rel => exact ⟨LQ.length, Nat.le_refl _, rfl, GN.out, Sx.out, Px.out, Rx.out, Vx.out, Bx.out, Zx.out, Wx.out⟩
            · have g1 : decide ((i : Int) < (LQ.length : Int)) = false := decide_eq_false (by omega)
              have GN : Hid (LQ.take LQ.length ++ LK.drop LQ.length = gNext LQ LK) := gNext_end hi (.inl h1)
              go_wp2
              go_meet
              case rel => exact ⟨LQ.length, Nat.le_refl _, rfl, GN.out, Sx.out, Px.out, Rx.out, Vx.out, Bx.out, Zx.out, Wx.out⟩
        case rest =>
          obtain ⟨n, hn2, rfl, hgn, hS, hP, hR, hV, hB, hZ, hW⟩ := hcut
          have S8 := hid hS
          have P8 := hid hP
          have R8 := hid hR
          have V8 := hid hV
          have B8 := hid hB
          have sz8 := hid hZ
          have HGN := hid hgn
          obtain ⟨W8, hW8⟩ : ∃ W, W = wc := ⟨_, rfl⟩
          have wq := (hW.cell (p := ⟨b, q * 6 + 4, none⟩) S7.out.row.lt).trans zq
          have wk := (hW.cell (p := ⟨b, k * 6 + 4, none⟩) S7.out.row.lt).trans zk
          have JQ := hid (KQ.out.below hW)
          have JK := hid (KK.out.below hW)
          rw [← hW8] at S8 P8 R8 V8 B8 sz8 wq wk JQ JK ⊢
          clear hS hP hR hV hB hZ hgn hW8 hW S7 P7 R7 V7 B7 KQ KK zq zk sz7 sz6
          go_upto_region 22 with fail
          have nI : (n : Int) ≤ (LQ.length : Int) := by omega
          have n0 : (0 : Int) ≤ (n : Int) := by omega
          obtain ⟨H, hH8⟩ : ∃ H, H = W8.heap.size := ⟨_, rfl⟩
          have e22 : Below W8.heap.size W8 (W8.alloc (.cells #[] 46)) := (Below.refl _ _).alloc (Nat.le_refl _) _
          have O22 : Hid (OwnGe (W8.alloc (.cells #[] 46)) H (.slice (some ⟨H, 0, none⟩) 0 0) []) := by rw [hH8]; exact OwnGe.empty W8
          have wq2 : (W8.alloc (.cells #[] 46)).cell? ⟨b, q * 6 + 4, none⟩ = some (.slice aq LQ.length cq) := (e22.cell (p := ⟨b, q * 6 + 4, none⟩) S8.out.row.lt).trans wq
          rw [← hH8] at e22
          have E22 := hid e22
          have Z22 : Hid (H ≤ (W8.alloc (.cells #[] 46)).heap.size) := by rw [hH8]; exact Nat.le_of_lt (by rw [size_al]; omega)
          have HH := hid hH8
          have HE := hid (show H = X3 + 2 by rw [hH8, sz8.out])
          clear e22 hH8
          obtain ⟨i0, hi0, _⟩ := info_parts Try.infoGe2
          obtain ⟨M, hM⟩ : ∃ M, M = LQ.take n := ⟨_, rfl⟩
          have hMl : M.length = n := by rw [hM, List.length_take]; omega
          have HM := hid hM
          have HML := hid hMl
          clear hM hMl
          go_cut [7, 9] from 140 to 148 (fun y7 y9 wx => y7 = .int .i64 (n : Int) ∧ OwnGe wx H y9 M ∧ Below H W8 wx ∧ H ≤ wx.heap.size)
          case first =>
            have HAQ : aq = none ∨ ∃ ad, aq = some ad := by cases aq with | none => exact .inl rfl | some ad => exact .inr ⟨ad, rfl⟩
            rcases HAQ with haq | ⟨ad, haq⟩
            · have hl0 : LQ.length = 0 := by
                rcases JQ.out.2 with ⟨h00, _⟩ | ⟨g, cs, hA, _⟩
                · exact h00
                · rw [haq] at hA; cases hA
              have hc0 : cq = 0 := by
                rcases JQ.out.2 with ⟨_, h00⟩ | ⟨g, cs, hA, _⟩
                · exact h00 haq
                · rw [haq] at hA; cases hA
              have hn0 : n = 0 := by omega
              have HM0 : Hid (M = []) := List.eq_nil_of_length_eq_zero (by rw [HML.out]; exact hn0)
              rw [haq, hl0, hc0] at wq2
              have hni : (n : Int) = 0 := by omega
              have HNI := hid hni
              clear hn0 nI n0
              have r140 : Hid (∀ x, x = W8.heap.size → x = H) := fun x hx => by rw [hx, HH.out]
              clear haq hl0 hc0 JQ wq
              go_wp2_with ((at_builtin; rw [← HH.out]; refine wpList_append_own_none rfl (.tmp 140) (.tmp 147) 26 rfl H 46 i0 2 Try.underlying26 hi0 _ 0 _ rfl O22.out rfl ?_))
              go_meet
              case rel => exact ⟨by rw [HNI.out], by rw [HM0.out]; exact O22.out, E22.out, Z22.out⟩
            · have hc : ∀ j, j < M.length → (W8.alloc (.cells #[] 46)).cell? (ad.add (j * 2)) = some (.int .i64 (geAt M j).tm) ∧ (W8.alloc (.cells #[] 46)).cell? (ad.add (j * 2 + 1)) = some (.string (geAt M j).tx) := fun j hj => by
                have hjn : j < n := by rw [← HML.out]; exact hj
                have em : geAt M j = geAt LQ j := by
                  unfold geAt
                  rw [HM.out, List.getD_eq_getElem?_getD, List.getD_eq_getElem?_getD, List.getElem?_take, if_pos hjn]
                rcases JQ.out.2 with ⟨h00, _⟩ | ⟨g, cs, hA, hr, hcs⟩
                · omega
                · have ea : ad = ⟨g, 0, none⟩ := Option.some.inj (haq.symm.trans hA)
                  have hadd : ∀ i, (⟨g, 0, none⟩ : Addr).add i = ⟨g, i, none⟩ := by intro i; unfold Addr.add; split <;> simp_all
                  rw [ea, hadd, hadd, em, (hr.alloc _).cell, (hr.alloc _).cell]
                  exact hcs j (by omega)
              have HC := hid hc
              have ncq : (n : Int) ≤ (cq : Int) := by have := JQ.out.1; omega
              have ncn : n ≤ cq := by omega
              rw [haq] at wq2
              clear hc haq JQ wq
              go_wp2_with ((at_builtin; rw [← HH.out]; refine append_ges H _ rfl (.tmp 140) (.tmp 147) rfl _ [] M rfl O22.out Z22.out ad cq (by rw [HML.out]; rfl) HC.out (by simp only [List.length_nil]; rw [HML.out]; omega) ?_; intro v9 W9 hO1 hg1))
              go_meet
              case rel => exact ⟨rfl, hO1, E22.out.grown hg1 Z22.out (fun x hx => by cases hx; exact Nat.le_refl _), Nat.le_trans Z22.out hg1.size⟩
          case rest =>
            obtain ⟨rfl, hO, hB9, hZ9⟩ := hcut
            have O9 := hid hO
            have B9 := hid hB9
            have Z9 := hid hZ9
            clear hO hB9 hZ9 O22 E22 Z22 wq2
            have nn : Hid (n ≤ LQ.length) := by exact hn2
            go_wp2_with fail
            go_loopw [9, 10] (fun y9 y10 wx => ∃ i : Nat, n ≤ i ∧ y10 = .int .i64 (i : Int) ∧ i ≤ 1000 ∧ OwnGe wx H y9 (M ++ (LK.drop n).take (i - n)) ∧ Below H W8 wx ∧ H ≤ wx.heap.size) (fun _ y10 _ => LK.length - (intOf y10).toNat)
            case atStart => exact ⟨n, Nat.le_refl _, rfl, by omega, by rw [Nat.sub_self, List.take_zero, List.append_nil]; exact O9.out, B9.out, Z9.out⟩
            case round =>
              obtain ⟨i, hni, rfl, hi1, hOx, hBx, hZx⟩ := hrel
              have Ox := hid hOx
              have Bx := hid hBx
              have Zx := hid hZx
              have b8 : b < H := by rw [HH.out]; exact S8.out.row.lt
              have vk := (hBx.cell (p := ⟨b, k * 6 + 4, none⟩) b8).trans wk
              clear hOx hBx hZx O9 B9 Z9
              by_cases h2 : i < LK.length
              · have i2 : (i : Int) < (LK.length : Int) := by omega
                have i0 : (0 : Int) ≤ (i : Int) := by omega
                rcases JK.out.2 with ⟨h00, _⟩ | ⟨gk, ds, hA2, hr2, hds⟩
                · omega
                have hgk : gk < H := by rw [HH.out]; exact hr2.lt
                have l0 := (Bx.out.cell (p := ⟨gk, i * 2, none⟩) hgk).trans ((hr2.cell (i * 2)).trans (hds i h2).1)
                have l1 := (Bx.out.cell (p := ⟨gk, i * 2 + 1, none⟩) hgk).trans ((hr2.cell (i * 2 + 1)).trans (hds i h2).2)
                have HTK := hid (take_more M LK hni h2)
                rcases hE : geAt LK i with ⟨t1, x1⟩
                rw [hE] at l0 l1 HTK
                dsimp only at l0 l1
                rw [hA2] at vk
                have HLn : Hid ((M ++ (LK.drop n).take (i - n)).length ≤ 1048576) := by show _ ≤ _; rw [List.length_append, List.length_take, HML.out]; omega
                generalize M ++ (LK.drop n).take (i - n) = MX at Ox HTK HLn
                clear hr2 hds hA2 hE hgk b8
                go_wp2_with ((at_builtin; refine append_ge H wr rfl (.tmp 160) (.tmp 169) rfl _ MX ⟨t1, x1⟩ rfl Ox.out Zx.out rfl HLn.out ?_; intro v9 W9 hO1 hg1))
                go_roundw
                case rel => exact ⟨i + 1, by omega, by go_num, by omega, by rw [HTK.out]; exact hO1, Bx.out.grown hg1 Zx.out (fun x hx => (World.ownsRow.lt Ox.out x hx).1), Nat.le_trans Zx.out hg1.size⟩
                case measure => simp [intOf]; omega
              · have i2 : ¬ (i : Int) < (LK.length : Int) := by omega
                obtain ⟨NX, hNX⟩ : ∃ l, l = gNext LQ LK := ⟨_, rfl⟩
                have eNX : M ++ (LK.drop n).take (i - n) = NX := by rw [take_whole M LK hni (by omega), HM.out, HGN.out, hNX]
                have lNX : NX.length ≤ 500 := by
                  rw [hNX]
                  have := gPart_le LQ LK
                  unfold gNext
                  split
                  · exact lqn
                  · rw [List.length_append, List.length_take, List.length_drop]; omega
                have oL := Ox.out
                rw [eNX] at oL
                obtain ⟨a9, c9, hv9, hlog⟩ := OwnGe.logR oL
                subst hv9
                have HLOG := hid hlog
                have HNX := hid hNX
                obtain ⟨W9, hW9⟩ : ∃ W, W = wr := ⟨_, rfl⟩
                have Bh : Hid (Below W8.heap.size W8 wr) := by rw [← HH.out]; exact Bx.out
                have S9 := hid (S8.out.below Bh.out)
                have P9 := hid (P8.out.below Bh.out P8.out.lt)
                have R9 := hid (R8.out.below Bh.out R8.out.lt)
                have V9 := hid (V8.out.below Bh.out)
                have B9 := hid (B8.out.trans (Bh.out.mono B8.out.size))
                rw [← hW9] at S9 P9 R9 V9 B9 HLOG vk ⊢
                clear hW9 eNX oL hlog hNX Ox Bx Zx Bh b8 hni hi1
                go_upto_region 27 with fail
                clear vk
                have hBb2 := hBb
                obtain ⟨W10, hW10⟩ : ∃ W, W = W9.setCell ⟨b, q * 6 + 4, none⟩ (.slice a9 NX.length c9) := ⟨_, rfl⟩
                have S10 : Hid (SpL W10 w0.heap.size b N (putM st q { st q with lg := NX }) (fun j => if j = q then a9 else la j) (fun j => if j = q then c9 else lc j) mb) := by
                  rw [hW10]
                  exact S9.out.setLg q a9 c9 NX HLOG.out
                have P10 : Hid (RowAt W10 X3 42 OVv) := by rw [hW10]; exact P9.out.other _ _ (by simp; omega)
                have R10 : Hid (RowAt W10 (X3 + 1) 34 #[.int .i64 0, .int .i64 0, .int .i64 0]) := by rw [hW10]; exact R9.out.other _ _ (by simp; omega)
                have V10 : Hid (Kp w W10) := by rw [hW10]; exact S9.out.keep V9.out _ _
                have B10 : Hid (Below w0.heap.size w0 W10) := by rw [hW10]; exact B9.out.setCell hBb _
                have sz10 : Hid (W10.heap.size = W9.heap.size) := by rw [hW10]; show _ = _; simp [World.setCell]
                have y9 := (S9.out.cells qN).2.2.2.2.1
                have f9 := S9.out.row.free (q * 6 + 4)
                have HW10 := hid hW10
                clear hW10
                go_upto_region 28 with fail
                rw [← HW10.out]
                clear HW10 y9 f9 P9 R9 V9 B9 S9 
                obtain ⟨la2, hla2⟩ : ∃ f : Nat → Option Addr, f = fun j => if j = q then a9 else la j := ⟨_, rfl⟩
                obtain ⟨lc2, hlc2⟩ : ∃ f : Nat → Nat, f = fun j => if j = q then c9 else lc j := ⟨_, rfl⟩
                rw [← hla2, ← hlc2] at S10
                clear hla2 hlc2
                obtain ⟨s2, hs2⟩ : ∃ x, x = putM st q { st q with lg := NX } := ⟨_, rfl⟩
                rw [← hs2] at S10
                have s2k : Hid (s2 k = s k) := hid (by rw [hs2, putM_ne _ _ _ (Ne.symm qk)]; exact sk.out)
                have s2q : Hid (s2 q = { s q with tm := TC, vt := VV, ld := false, lg := NX }) := hid (by rw [hs2, putM_self, sq.out])
                have s2j : Hid (∀ j, j ≠ q → s2 j = s j) := fun j hj => by rw [hs2, putM_ne _ _ _ hj, HST.out, putM_ne _ _ _ hj]
                clear hs2
                obtain ⟨_, _, _, _, z4, z5⟩ := S10.out.cells hk
                obtain ⟨zm, zmB, zml⟩ := S10.out.mat k hk
                obtain ⟨XM, hXM⟩ : ∃ X, X = mb k := ⟨_, rfl⟩
                rw [← hXM] at z5 zm zmB
                rw [s2k.out, ← HLK.out] at z4
                have z6 : W10.cell? ⟨XM, q, none⟩ = some (.int .i64 ((s2 k).mt.getD q 0)) := by rw [zm.cell q, ints_at (by rw [zml]; exact qN)]
                have f6 := zm.free q
                generalize (s2 k).mt.getD q 0 = old at z6
                obtain ⟨W11, hW11⟩ : ∃ W, W = (W10.setCell ⟨XM, q, none⟩ (.int .i64 (LK.length : Int))).drew := ⟨_, rfl⟩
                have nX : Hid (XM ≠ X3 ∧ XM ≠ X3 + 1) := ⟨by have := hH3.out k hk; omega, by have := hH3.out k hk; omega⟩
                have S11 : Hid (SpL W11 w0.heap.size b N (putM s2 k { s2 k with mt := (s2 k).mt.set q (LK.length : Int) }) la2 lc2 mb) := by
                  have z := S10.out.putMt k hk q (LK.length : Int)
                  rw [← hXM] at z
                  rw [hW11]
                  exact z.below (Below.refl _ _).drew
                have P11 : Hid (RowAt W11 X3 42 OVv) := by rw [hW11]; exact P10.out.other _ _ (Ne.symm nX.out.1)
                have R11 : Hid (RowAt W11 (X3 + 1) 34 #[.int .i64 0, .int .i64 0, .int .i64 0]) := by rw [hW11]; exact R10.out.other _ _ (Ne.symm nX.out.2)
                have V11 : Hid (Kp w W11) := by rw [hW11, hXM]; exact (S10.out.keepM V10.out hk _ _).drew
                have B11 : Hid (Below w0.heap.size w0 W11) := by rw [hW11]; exact (B10.out.setCell zmB _).drew
                have HW11 := hid hW11
                clear hW11 zm zml zmB hXM S10 P10 R10 V10 B10
                go_upto_region 28 with fail
                go_region
                rw [← HW11.out]
                clear HW11 z4 z5 z6 f6 nX
                obtain ⟨s3, hs3⟩ : ∃ x, x = putM s2 k { s2 k with mt := (s2 k).mt.set q (LK.length : Int) } := ⟨_, rfl⟩
                rw [← hs3] at S11
                have s3k : Hid (s3 k = { s k with mt := (s k).mt.set q (LK.length : Int) }) := hid (by rw [hs3, putM_self, s2k.out])
                have s3q : Hid (s3 q = { s q with tm := TC, vt := VV, ld := false, lg := NX }) := hid (by rw [hs3, putM_ne _ _ _ qk]; exact s2q.out)
                have s3j : Hid (∀ j, j ≠ q → j ≠ k → s3 j = s j) := fun j h1 h2 => by rw [hs3, putM_ne _ _ _ h2]; exact s2j.out j h1
                clear hs3 s2k s2q s2j
                have KC := hid (sCount w0.heap.size b N k hN hk s3 (by rw [s3k.out]; show (s k).lg.length ≤ 500; rw [← HLK.out]; exact lkn) W11 ⟨_, _, _, S11.out⟩ B11.out.size)
                go_wp2_with fail
                refine KC.out.mono ?_
                rintro e w12 ⟨rfl, ⟨la3, lc3, mb3, h12⟩, hg12⟩
                have nb : ∀ X, X3 ≤ X → some X ≠ some b := fun X hX e => by have := Option.some.inj e; omega
                obtain ⟨W12, hW12⟩ : ∃ W, W = w12 := ⟨_, rfl⟩
                have S12 := hid h12
                have P12 : Hid (RowAt w12 X3 42 OVv) := (hg12.block X3 P11.out.lt (nb _ (Nat.le_refl _))).trans P11.out
                have R12 : Hid (RowAt w12 (X3 + 1) 34 #[.int .i64 0, .int .i64 0, .int .i64 0]) := (hg12.block (X3 + 1) R11.out.lt (nb _ (by omega))).trans R11.out
                have V12 : Hid (Kp w w12) := S11.out.keepG V11.out hg12
                have B12 := hid (B11.out.grown hg12 B11.out.size (fun x hx => by have := Option.some.inj hx; omega))
                rw [← hW12] at S12 P12 R12 V12 B12 ⊢
                clear h12 hg12 nb hW12 KC S11 P11 R11 V11 B11
                obtain ⟨s4, hs4⟩ : ∃ x, x = putM s3 k (gCount N (s3 k)) := ⟨_, rfl⟩
                rw [← hs4] at S12
                obtain ⟨LD, hLD⟩ : ∃ m, m = gCount N { s k with mt := (s k).mt.set q (LK.length : Int) } := ⟨_, rfl⟩
                have s4k : Hid (s4 k = LD) := hid (by rw [hs4, putM_self, s3k.out, hLD])
                have s4q : Hid (s4 q = { s q with tm := TC, vt := VV, ld := false, lg := NX }) := hid (by rw [hs4, putM_ne _ _ _ qk]; exact s3q.out)
                have s4j : Hid (∀ j, j ≠ q → j ≠ k → s4 j = s j) := fun j h1 h2 => by rw [hs4, putM_ne _ _ _ h2]; exact s3j.out j h1 h2
                have GC : Hid (gCopy N s k (q : Int) = (putM (putM s k LD) q { s q with tm := TC, vt := VV, ld := false, lg := NX, cm := max (s q).cm (min LD.cm NX.length) }, ⟨0, 0, 0⟩)) := hid (by
                  unfold gCopy
                  rw [if_neg NB.out, if_neg (by rw [HLD.out]; exact Bool.noConfusion), if_neg (by rw [Int.toNat_natCast, ← HTQ.out, ← HTC.out]; omega), Int.toNat_natCast]
                  dsimp only
                  rw [hLD, HNX.out, HVV.out, HTC.out, HTQ.out, HLK.out, HLQ.out])
                have HLDm := hid hLD
                clear hs4 hLD s3k s3q s3j
                have ck3 := (S12.out.cells hk).2.2.2.1
                have cq3 := (S12.out.cells qN).2.2.2.1
                rw [s4k.out] at ck3
                rw [s4q.out] at cq3
                dsimp only at cq3
                obtain ⟨CL, hCL⟩ : ∃ c, c = LD.cm := ⟨_, rfl⟩
                obtain ⟨CQ, hCQ⟩ : ∃ c, c = (s q).cm := ⟨_, rfl⟩
                rw [← hCL] at ck3 GC
                rw [← hCQ] at cq3 GC
                have HCQ := hid hCQ
                clear hCL hCQ
                by_cases hc : NX.length < CL
                · have c1 : (NX.length : Int) < (CL : Int) := by omega
                  by_cases hd2 : CQ < NX.length
                  · have c2 : (CQ : Int) < (NX.length : Int) := by omega
                    have MX : Hid (max CQ (min CL NX.length) = NX.length) := hid (by rw [Nat.min_eq_right (by omega)]; exact Nat.max_eq_right (by omega))
                    go_upto_region 34 with fail
                    clear ck3 cq3
                    obtain ⟨W13, hW13⟩ : ∃ W, W = W12.setCell ⟨b, q * 6 + 3, none⟩ (.int .i64 (NX.length : Int)) := ⟨_, rfl⟩
                    have S13 : Hid (SpL W13 w0.heap.size b N (putM s4 q { s4 q with cm := NX.length }) la3 lc3 mb3) := by
                      rw [hW13]
                      exact S12.out.setCm q NX.length
                    have P13 : Hid (RowAt W13 X3 42 OVv) := by rw [hW13]; exact P12.out.other _ _ (by simp; omega)
                    have R13 : Hid (RowAt W13 (X3 + 1) 34 #[.int .i64 0, .int .i64 0, .int .i64 0]) := by rw [hW13]; exact R12.out.other _ _ (by simp; omega)
                    have V13 : Hid (Kp w W13) := by rw [hW13]; exact S12.out.keep V12.out _ _
                    have B13 : Hid (Below w0.heap.size w0 W13) := by rw [hW13]; exact B12.out.setCell hBb _
                    have sz13 : Hid (W13.heap.size = W12.heap.size) := by rw [hW13]; show _ = _; simp [World.setCell]
                    have y12 := (S12.out.cells qN).2.2.2.1
                    have f12 := S12.out.row.free (q * 6 + 3)
                    have HW13 := hid hW13
                    clear hW13
                    go_upto_region 35 with fail
                    rw [← HW13.out]
                    clear HW13 y12 f12 P12 R12 V12 B12 S12 
                    have HR : Hid (G1 = (putM s4 q { s4 q with cm := NX.length }) ∧ G2 = ⟨0, 0, 0⟩) := by
                      have q : gCopy N s k (q : Int) = ((putM s4 q { s4 q with cm := NX.length }), ⟨0, 0, 0⟩) := by rw [GC.out]; exact congrArg (fun x => (x, (⟨0, 0, 0⟩ : Gou))) (Eq.symm (copy_state (by rw [putM_ne _ _ _ (Ne.symm qk)]; exact s4k.out) (by rw [putM_self, s4q.out, MX.out]) qk (fun j h1 h2 => by rw [putM_ne _ _ _ h1]; exact s4j.out j h1 h2)))
                      rw [HG1.out, HG2.out, q]
                      exact ⟨rfl, rfl⟩
                    go_upto_region 35 with fail
                    go_wp2_with (refine wpList_store_row rfl 34 (.tmp 4) (.tmp 215) rfl (X3 + 1) #[.int .i64 0, .int .i64 0, .int .i64 0] rfl rfl _ _ R13.out (by kernel_rfl) rfl (by simp [Value.oneCell']) ?_)
                    try simp only [Exit.inBlock, Exit.then]
                    refine bodyPost_ret (v := .agg #[.int .i64 0, .int .i64 0, .int .i64 0]) ?_ rfl ⟨by rw [HR.out.2], ⟨la3, lc3, mb3, by rw [HR.out.1]; exact S13.out.aside R13.out (by decide) (by decide) (by decide) _⟩, below_setRow B13.out _ _ (by have := HBX.out; omega), V13.out.setRow (Nat.le_trans hwX.out (Nat.le_add_right _ _)) _⟩
                    exact results_cell_row Try.results26 _ _ (X3 + 1) _ _ _ _ rfl (R13.out.setRow _) Try.underlying34 rfl (by kernel_rfl)
                  · have c2 : ¬ (CQ : Int) < (NX.length : Int) := by omega
                    have MX : Hid (max CQ (min CL NX.length) = CQ) := hid (by rw [Nat.min_eq_right (by omega)]; exact Nat.max_eq_left (by omega))
                    go_upto_region 35 with fail
                    have S13 := S12
                    have R13 := R12
                    have V13 := V12
                    have B13 := B12
                    have HR : Hid (G1 = s4 ∧ G2 = ⟨0, 0, 0⟩) := by
                      have q : gCopy N s k (q : Int) = (s4, ⟨0, 0, 0⟩) := by rw [GC.out]; exact congrArg (fun x => (x, (⟨0, 0, 0⟩ : Gou))) (Eq.symm (copy_state s4k.out (by rw [s4q.out, MX.out, HCQ.out]) qk s4j.out))
                      rw [HG1.out, HG2.out, q]
                      exact ⟨rfl, rfl⟩
                    go_upto_region 35 with fail
                    go_wp2_with (refine wpList_store_row rfl 34 (.tmp 4) (.tmp 215) rfl (X3 + 1) #[.int .i64 0, .int .i64 0, .int .i64 0] rfl rfl _ _ R13.out (by kernel_rfl) rfl (by simp [Value.oneCell']) ?_)
                    try simp only [Exit.inBlock, Exit.then]
                    refine bodyPost_ret (v := .agg #[.int .i64 0, .int .i64 0, .int .i64 0]) ?_ rfl ⟨by rw [HR.out.2], ⟨la3, lc3, mb3, by rw [HR.out.1]; exact S13.out.aside R13.out (by decide) (by decide) (by decide) _⟩, below_setRow B13.out _ _ (by have := HBX.out; omega), V13.out.setRow (Nat.le_trans hwX.out (Nat.le_add_right _ _)) _⟩
                    exact results_cell_row Try.results26 _ _ (X3 + 1) _ _ _ _ rfl (R13.out.setRow _) Try.underlying34 rfl (by kernel_rfl)
                · have c1 : ¬ (NX.length : Int) < (CL : Int) := by omega
                  by_cases hd2 : CQ < CL
                  · have c2 : (CQ : Int) < (CL : Int) := by omega
                    have MX : Hid (max CQ (min CL NX.length) = CL) := hid (by rw [Nat.min_eq_left (by omega)]; exact Nat.max_eq_right (by omega))
                    go_upto_region 34 with fail
                    clear ck3 cq3
                    obtain ⟨W13, hW13⟩ : ∃ W, W = W12.setCell ⟨b, q * 6 + 3, none⟩ (.int .i64 (CL : Int)) := ⟨_, rfl⟩
                    have S13 : Hid (SpL W13 w0.heap.size b N (putM s4 q { s4 q with cm := CL }) la3 lc3 mb3) := by
                      rw [hW13]
                      exact S12.out.setCm q CL
                    have P13 : Hid (RowAt W13 X3 42 OVv) := by rw [hW13]; exact P12.out.other _ _ (by simp; omega)
                    have R13 : Hid (RowAt W13 (X3 + 1) 34 #[.int .i64 0, .int .i64 0, .int .i64 0]) := by rw [hW13]; exact R12.out.other _ _ (by simp; omega)
                    have V13 : Hid (Kp w W13) := by rw [hW13]; exact S12.out.keep V12.out _ _
                    have B13 : Hid (Below w0.heap.size w0 W13) := by rw [hW13]; exact B12.out.setCell hBb _
                    have sz13 : Hid (W13.heap.size = W12.heap.size) := by rw [hW13]; show _ = _; simp [World.setCell]
                    have y12 := (S12.out.cells qN).2.2.2.1
                    have f12 := S12.out.row.free (q * 6 + 3)
                    have HW13 := hid hW13
                    clear hW13
                    go_upto_region 35 with fail
                    rw [← HW13.out]
                    clear HW13 y12 f12 P12 R12 V12 B12 S12 
                    have HR : Hid (G1 = (putM s4 q { s4 q with cm := CL }) ∧ G2 = ⟨0, 0, 0⟩) := by
                      have q : gCopy N s k (q : Int) = ((putM s4 q { s4 q with cm := CL }), ⟨0, 0, 0⟩) := by rw [GC.out]; exact congrArg (fun x => (x, (⟨0, 0, 0⟩ : Gou))) (Eq.symm (copy_state (by rw [putM_ne _ _ _ (Ne.symm qk)]; exact s4k.out) (by rw [putM_self, s4q.out, MX.out]) qk (fun j h1 h2 => by rw [putM_ne _ _ _ h1]; exact s4j.out j h1 h2)))
                      rw [HG1.out, HG2.out, q]
                      exact ⟨rfl, rfl⟩
                    go_upto_region 35 with fail
                    go_wp2_with (refine wpList_store_row rfl 34 (.tmp 4) (.tmp 215) rfl (X3 + 1) #[.int .i64 0, .int .i64 0, .int .i64 0] rfl rfl _ _ R13.out (by kernel_rfl) rfl (by simp [Value.oneCell']) ?_)
                    try simp only [Exit.inBlock, Exit.then]
                    refine bodyPost_ret (v := .agg #[.int .i64 0, .int .i64 0, .int .i64 0]) ?_ rfl ⟨by rw [HR.out.2], ⟨la3, lc3, mb3, by rw [HR.out.1]; exact S13.out.aside R13.out (by decide) (by decide) (by decide) _⟩, below_setRow B13.out _ _ (by have := HBX.out; omega), V13.out.setRow (Nat.le_trans hwX.out (Nat.le_add_right _ _)) _⟩
                    exact results_cell_row Try.results26 _ _ (X3 + 1) _ _ _ _ rfl (R13.out.setRow _) Try.underlying34 rfl (by kernel_rfl)
                  · have c2 : ¬ (CQ : Int) < (CL : Int) := by omega
                    have MX : Hid (max CQ (min CL NX.length) = CQ) := hid (by rw [Nat.min_eq_left (by omega)]; exact Nat.max_eq_left (by omega))
                    go_upto_region 35 with fail
                    have S13 := S12
                    have R13 := R12
                    have V13 := V12
                    have B13 := B12
                    have HR : Hid (G1 = s4 ∧ G2 = ⟨0, 0, 0⟩) := by
                      have q : gCopy N s k (q : Int) = (s4, ⟨0, 0, 0⟩) := by rw [GC.out]; exact congrArg (fun x => (x, (⟨0, 0, 0⟩ : Gou))) (Eq.symm (copy_state s4k.out (by rw [s4q.out, MX.out, HCQ.out]) qk s4j.out))
                      rw [HG1.out, HG2.out, q]
                      exact ⟨rfl, rfl⟩
                    go_upto_region 35 with fail
                    go_wp2_with (refine wpList_store_row rfl 34 (.tmp 4) (.tmp 215) rfl (X3 + 1) #[.int .i64 0, .int .i64 0, .int .i64 0] rfl rfl _ _ R13.out (by kernel_rfl) rfl (by simp [Value.oneCell']) ?_)
                    try simp only [Exit.inBlock, Exit.then]
                    refine bodyPost_ret (v := .agg #[.int .i64 0, .int .i64 0, .int .i64 0]) ?_ rfl ⟨by rw [HR.out.2], ⟨la3, lc3, mb3, by rw [HR.out.1]; exact S13.out.aside R13.out (by decide) (by decide) (by decide) _⟩, below_setRow B13.out _ _ (by have := HBX.out; omega), V13.out.setRow (Nat.le_trans hwX.out (Nat.le_add_right _ _)) _⟩
                    exact results_cell_row Try.results26 _ _ (X3 + 1) _ _ _ _ rfl (R13.out.setRow _) Try.underlying34 rfl (by kernel_rfl)
end Go.Proofs.Ytmhkelfmciepaaa
