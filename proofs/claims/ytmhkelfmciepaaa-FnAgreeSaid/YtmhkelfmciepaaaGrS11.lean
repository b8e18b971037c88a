import Derived.Test.YtmhkelfmciepaaaGrS10
import Derived.Deep.CutRange
namespace Go.Proofs.Ytmhkelfmciepaaa
open Go.RowKit
set_option linter.unusedVariables false
/-! The specification's RunGroup whole. -/
theorem SpL.asideC {w : World} {B b N : Nat} {s : Gst} {la : Nat → Option Addr} {lc mb : Nat → Nat} (h : SpL w B b N s la lc mb) {X : Nat} {t : TypeId} {cs : Array Value} (hX : RowAt w X t cs) (t1 : 36 ≠ t) (t2 : 46 ≠ t) (t3 : 2 ≠ t) (i : Nat) (v : Value) : SpL (w.setCell ⟨X, i, none⟩ v) B b N s la lc mb := by
  refine h.rows fun g t' ds hr ho => hr.other _ _ ?_
  rcases ho with rfl | rfl | ⟨k, hk, rfl⟩
  · obtain ⟨c2, h2, _⟩ := h.row
    exact row_apart h2 hX t1
  · exact row_apart hr hX t2
  · exact row_apart (h.mat k hk).1 hX t3
theorem OwnGo.setO {w : World} {base : Nat} {v : Value} {L : List Gou} (h : OwnGo w base v L) {X : Nat} {t : TypeId} {cs : Array Value} (hX : RowAt w X t cs) (ht : 34 ≠ t) (i : Nat) (u : Value) : OwnGo (w.setCell ⟨X, i, none⟩ u) base v L := by
  refine ⟨h.1, ?_⟩
  rcases h.2 with h0 | ⟨g, cap, cur, he, hb, hr, hnc, hm, hsz, htk⟩
  · exact .inl h0
  · have R : RowAt w g 34 cur := hr
    exact .inr ⟨g, cap, cur, he, hb, R.other _ _ (row_apart R hX ht), hnc, hm, hsz, htk⟩
theorem OwnGo.setRowO {w : World} {base : Nat} {v : Value} {L : List Gou} (h : OwnGo w base v L) {X : Nat} {t : TypeId} {cs : Array Value} (hX : RowAt w X t cs) (ht : 34 ≠ t) (c : Array Value) : OwnGo (w.setRow X c) base v L := by
  refine ⟨h.1, ?_⟩
  rcases h.2 with h0 | ⟨g, cap, cur, he, hb, hr, hnc, hm, hsz, htk⟩
  · exact .inl h0
  · have R : RowAt w g 34 cur := hr
    exact .inr ⟨g, cap, cur, he, hb, R.otherRow _ _ (row_apart R hX ht), hnc, hm, hsz, htk⟩
theorem below_ownO {w0 w w' : World} {base : Nat} {v : Value} {L : List Gou} (hb : Below w0.heap.size w0 w) (hO : OwnGo w base v L) (hBH : w0.heap.size ≤ base) (hg : w.grownBy w' v.ownBlock) : Below w0.heap.size w0 w' := hb.grown hg hb.size fun x hx => by have := (World.ownsRow.lt hO x hx).1; omega
def grP (mem : Int) (n : Nat) : Prop := 1 ≤ mem ∧ mem ≤ 9 ∧ n ≤ 2000
/-- what the specification's run answers -/
def AnsGS (mem : Int) (n : Nat) (o : Nat → Gop) (w : World) (e : Ending) (w' : World) : Prop :=
  ((¬ grP mem n ∧ e = .returned (.agg #[.slice none 0 0, .slice none 0 0])) ∨
   (grP mem n ∧ ∃ b v, e = .returned (.agg #[v, .slice (some ⟨b, 0, none⟩) mem.toNat mem.toNat]) ∧ OwnGo w' w.heap.size v (gR mem.toNat o n).2 ∧ SpAt w' w.heap.size b mem.toNat (gR mem.toNat o n).1)) ∧ Below w.heap.size w w'
abbrev Z2 : Array Value := #[.slice none 0 0, .slice none 0 0]
set_option maxRecDepth 20000 in
set_option maxHeartbeats 4000000 in
theorem sRun (mem : Int) (a : Option Addr) (n cap : Nat) (o : Nat → Gop) (pa : Nat → Option Addr) (pc : Nat → Nat) (hn : n ≤ 1048576) (hpe : ∀ k, k < n → (o k).pe.length ≤ 1048576 ∧ (o k).tx.size ≤ 1048576) (w : World) (h : Gops w a n cap o pa pc) :
    Calls Try.prog 7 #[.int .i64 mem, .slice a n cap] w fun e w' => AnsGS mem n o w e w' := by
  have HH := hid h
  have HPE := hid hpe
  have hnc := h.1
  clear h hpe
  obtain ⟨X4, hX4⟩ : ∃ X, X = w.heap.size := ⟨_, rfl⟩
  obtain ⟨W1, hW1⟩ : ∃ W, W = w.alloc (.cells Z2 31) := ⟨_, rfl⟩
  have b1 : Below w.heap.size w W1 := by rw [hW1]; exact (Below.refl _ _).alloc (Nat.le_refl _) _
  have Q1 : Hid (RowAt W1 X4 31 Z2) := by rw [hW1, hX4]; exact RowAt.new _ _ _
  have sz1 : Hid (W1.heap.size = X4 + 1) := by rw [hW1, hX4]; show _ = _; rw [size_al]
  have B1 := hid b1
  have HX4 := hid hX4
  have HW1 := hid hW1
  clear b1 hW1 hX4
  have bad : ∀ (hbad : ¬ grP mem n), (fun e w' => AnsGS mem n o w e w') (.returned (.agg Z2)) (W1.setRow X4 Z2) := fun hbad => ⟨.inl ⟨hbad, rfl⟩, below_setRow B1.out _ _ (by rw [HX4.out]; exact Nat.le_refl _)⟩
  have BAD := hid bad
  clear bad
  by_cases m1 : mem < 1
  · have nb : ¬ grP mem n := fun q => by have := q.1; omega
    have HB := hid (BAD.out nb)
    go_enter Try.func7, Try.ntmps7
    go_upto_region 1 with fail
    rw [← HW1.out, ← HX4.out]
    go_upto_region 2 with fail
    go_wp2_with (refine wpList_store_row rfl 31 (.tmp 4) (.tmp 22) rfl X4 Z2 rfl rfl _ _ Q1.out (by kernel_rfl) rfl (by simp [Value.oneCell']) ?_)
    try simp only [Exit.inBlock, Exit.then]
    refine bodyPost_ret (v := .agg Z2) ?_ rfl HB.out
    exact results_cell_row Try.results7 _ _ X4 _ _ _ _ rfl (Q1.out.setRow _) Try.underlying31 rfl (by kernel_rfl)
  by_cases m9 : 9 < mem
  · have nb : ¬ grP mem n := fun q => by have := q.2.1; omega
    have HB := hid (BAD.out nb)
    go_enter Try.func7, Try.ntmps7
    go_upto_region 1 with fail
    rw [← HW1.out, ← HX4.out]
    go_upto_region 2 with fail
    go_wp2_with (refine wpList_store_row rfl 31 (.tmp 4) (.tmp 22) rfl X4 Z2 rfl rfl _ _ Q1.out (by kernel_rfl) rfl (by simp [Value.oneCell']) ?_)
    try simp only [Exit.inBlock, Exit.then]
    refine bodyPost_ret (v := .agg Z2) ?_ rfl HB.out
    exact results_cell_row Try.results7 _ _ X4 _ _ _ _ rfl (Q1.out.setRow _) Try.underlying31 rfl (by kernel_rfl)
  by_cases mo : 2000 < n
  · have nb : ¬ grP mem n := fun q => by have := q.2.2; omega
    have HB := hid (BAD.out nb)
    have moI : (2000 : Int) < (n : Int) := by omega
    go_enter Try.func7, Try.ntmps7
    go_upto_region 1 with fail
    rw [← HW1.out, ← HX4.out]
    go_upto_region 2 with fail
    go_wp2_with (refine wpList_store_row rfl 31 (.tmp 4) (.tmp 22) rfl X4 Z2 rfl rfl _ _ Q1.out (by kernel_rfl) rfl (by simp [Value.oneCell']) ?_)
    try simp only [Exit.inBlock, Exit.then]
    refine bodyPost_ret (v := .agg Z2) ?_ rfl HB.out
    exact results_cell_row Try.results7 _ _ X4 _ _ _ _ rfl (Q1.out.setRow _) Try.underlying31 rfl (by kernel_rfl)
  obtain ⟨N, rfl⟩ := Int.eq_ofNat_of_zero_le (show 0 ≤ mem by omega)
  have hok : Hid (grP (N : Int) n) := ⟨by omega, by omega, by omega⟩
  have moI : ¬ (2000 : Int) < (n : Int) := by omega
  have N9 : N ≤ 9 := by omega
  have N1 : 1 ≤ N := by omega
  clear BAD
  obtain ⟨bM, hbM⟩ : ∃ X, X = W1.heap.size := ⟨_, rfl⟩
  obtain ⟨W2, hW2⟩ : ∃ W, W = W1.alloc (.cells (madeCells #[.int .i64 0, .int .i64 0, .bool false, .int .i64 0, .slice none 0 0, .slice none 0 0] (N * 6)) 36) := ⟨_, rfl⟩
  have hmk := mkMb W1 N (by omega)
  rw [← hbM, ← hW2] at hmk
  have b2 : Below W1.heap.size W1 W2 := by rw [hW2]; exact (Below.refl _ _).alloc (Nat.le_refl _) _
  have I2 : Hid (InL W2 w bM N 0 (fun _ => 0)) := by
    refine ⟨?_, fun k hk => absurd hk (by omega), fun j k hj => absurd hj (by omega)⟩
    rw [hW2, hbM]
    refine FRow.of (RowAt.new _ _ _) (by simp [madeCells]) fun p hp => ?_
    rw [inF_0]
    have h2 : p % 6 < 6 := Nat.mod_lt _ (by decide)
    simp [madeCells, hp]
    rcases (show p % 6 = 0 ∨ p % 6 = 1 ∨ p % 6 = 2 ∨ p % 6 = 3 ∨ p % 6 = 4 ∨ p % 6 = 5 by omega) with e | e | e | e | e | e <;> rw [e] <;> rfl
  have Q2 : Hid (RowAt W2 X4 31 Z2) := Q1.out.below b2 Q1.out.lt
  have B2 : Hid (Below w.heap.size w W2) := B1.out.trans (b2.mono B1.out.size)
  have hbw : Hid (w.heap.size ≤ bM) := by rw [hbM]; exact B1.out.size
  have lX4 : X4 < bM := by rw [hbM]; exact Q1.out.lt
  have sz2 : Hid (W2.heap.size = bM + 1) := by rw [hW2, size_al, ← hbM]; exact rfl
  clear hW2 hbM b2
  go_enter Try.func7, Try.ntmps7
  go_upto_region 1 with fail
  rw [← HW1.out, ← HX4.out]
  go_upto_region 3 with fail
  go_wp2_with fail
  clear hmk HW1
  go_loopw [6] (fun y wr => ∃ (i : Nat) (mb : Nat → Nat), i ≤ N ∧ y = .int .i64 (i : Int) ∧ InL wr w bM N i mb ∧ RowAt wr X4 31 Z2 ∧ Below w.heap.size w wr ∧ bM + 1 ≤ wr.heap.size) (fun y _ => N - (intOf y).toNat)
  case atStart => exact ⟨0, fun _ => 0, Nat.zero_le _, rfl, I2.out, Q2.out, B2.out, by rw [sz2.out]; exact Nat.le_refl _⟩
  case round =>
    obtain ⟨i, mb, hi, rfl, hI, hQ, hB, hZ⟩ := hrel
    have HI := hid hI
    have HQ := hid hQ
    have HB := hid hB
    clear hI hQ hB I2 Q2 B2 Q1 B1
    by_cases hlt : i < N
    · have hlt' : (i : Int) < (N : Int) := by omega
      have i0 : (0 : Int) ≤ (i : Int) := by omega
      obtain ⟨WA, hWA⟩ : ∃ W, W = wr.setCell ⟨bM, i * 6 + 1, none⟩ (.int .i64 (-1)) := ⟨_, rfl⟩
      have szA : Hid (WA.heap.size = wr.heap.size) := by rw [hWA]; show _ = _; simp [World.setCell]
      obtain ⟨X, hX⟩ : ∃ X, X = wr.heap.size := ⟨_, rfl⟩
      obtain ⟨WB, hWB⟩ : ∃ W, W = WA.alloc (.cells (ints .i64 (List.replicate N 0)) 2) := ⟨_, rfl⟩
      have hmk := mk64 WA N (by omega)
      rw [← hWB, szA.out, ← hX] at hmk
      have c1 := HI.out.row.cell (p := i * 6 + 1) (by omega)
      have f1 := HI.out.row.free (i * 6 + 1)
      have FA : Hid (FRow WB bM 36 (N * 6) (putF (inF mb N i) (i * 6 + 1) (.int .i64 (-1)))) := by rw [hWB, hWA]; exact (HI.out.row.set _ _).alloc _
      have c5 := FA.out.cell (p := i * 6 + 5) (by omega)
      have f5 := FA.out.free (i * 6 + 5)
      generalize inF mb N i (i * 6 + 1) = v1 at c1
      generalize putF (inF mb N i) (i * 6 + 1) (.int .i64 (-1)) (i * 6 + 5) = v5 at c5
      have NX : Hid (InL (WB.setCell ⟨bM, i * 6 + 5, none⟩ (.slice (some ⟨X, 0, none⟩) N N)) w bM N (i + 1) (fun j => if j = i then X else mb j)) := by rw [hWB, hWA]; exact HI.out.next hX HB.out.size
      have NQ : Hid (RowAt (WB.setCell ⟨bM, i * 6 + 5, none⟩ (.slice (some ⟨X, 0, none⟩) N N)) X4 31 Z2) := by rw [hWB, hWA]; exact ((HQ.out.other _ _ (by simp; omega)).alloc _).other _ _ (by simp; omega)
      have NB : Hid (Below w.heap.size w (WB.setCell ⟨bM, i * 6 + 5, none⟩ (.slice (some ⟨X, 0, none⟩) N N))) := by
        rw [hWB, hWA]
        have q := HB.out.setCell (p := ⟨bM, i * 6 + 1, none⟩) hbw.out (.int .i64 (-1))
        exact (q.alloc q.size _).setCell hbw.out _
      have NZ : Hid (bM + 1 ≤ (WB.setCell ⟨bM, i * 6 + 5, none⟩ (.slice (some ⟨X, 0, none⟩) N N)).heap.size) := by
        rw [hWB]
        show _ ≤ _
        simp only [World.setCell, Array.size_modify]
        rw [size_al, szA.out]
        omega
      have HWA := hid hWA
      clear hWA hWB hX HI HQ HB FA szA hZ
      go_upto_region 8 with fail
      rw [← HWA.out]
      clear c1 f1 HWA
      go_wp2
      go_roundw
      case rel => exact ⟨i + 1, _, hlt, by go_num, NX.out, NQ.out, NB.out, NZ.out⟩
      case measure => simp [intOf]; omega
    · have hke : i = N := by omega
      subst hke
      have hlt' : ¬ (i : Int) < (i : Int) := by omega
      have S3 := hid (HI.out.sp hbw.out)
      obtain ⟨X7, hX7⟩ : ∃ X, X = wr.heap.size := ⟨_, rfl⟩
      obtain ⟨W4, hW4⟩ : ∃ W, W = wr.alloc (.cells Z2 31) := ⟨_, rfl⟩
      have b4 : Below wr.heap.size wr W4 := by rw [hW4]; exact (Below.refl _ _).alloc (Nat.le_refl _) _
      have S4 := hid (S3.out.below b4)
      have Q4 := hid (HQ.out.below b4 HQ.out.lt)
      have B4 := hid (HB.out.trans (b4.mono HB.out.size))
      have Y4 : Hid (RowAt W4 X7 31 Z2) := by rw [hW4, hX7]; exact RowAt.new _ _ _
      have l7 : X4 < X7 := by rw [hX7]; exact HQ.out.lt
      have h7 : Hid (w.heap.size ≤ X7) := by rw [hX7]; exact HB.out.size
      have z4 : Hid (X7 + 1 ≤ W4.heap.size) := by rw [hW4, size_al, ← hX7]; exact Nat.le_refl _
      have HX7 := hid hX7
      have HW4 := hid hW4
      clear hX7 hW4 b4 S3 HI HQ HB hZ hi
      go_upto_region 10 with ((refine wpList_store_row rfl 31 (.tmp 7) (.tmp 41) rfl wr.heap.size Z2 rfl rfl _ _ (RowAt.new wr _ _) (by kernel_rfl) rfl (by simp [Value.oneCell']) ?_); rw [World.setRow_alloc_new])
      rw [← HW4.out, ← HX7.out]
      clear HW4 HX7
      go_wp2_with fail
      go_loopw [8, 9, 10] (fun y8 y9 y10 wr => ∃ (j : Nat) (v : Value), j ≤ n ∧ y8 = .int .i64 (j : Int) ∧ SpAt wr w.heap.size bM i (gR i o j).1 ∧ RowAt wr X7 31 #[v, .slice none 0 0] ∧ OwnGo wr w.heap.size v (gR i o j).2 ∧ RowAt wr X4 31 Z2 ∧ Below w.heap.size w wr ∧ X7 + 1 ≤ wr.heap.size) (fun y8 _ _ _ => n - (intOf y8).toNat)
      case atStart => exact ⟨0, .slice none 0 0, Nat.zero_le _, rfl, ⟨_, _, _, S4.out⟩, Y4.out, World.ownsRow_nil _ _ _ _, Q4.out, B4.out, z4.out⟩
      case round =>
        obtain ⟨j, v, hj, rfl, hS, hY, hO, hQ, hB, hZ⟩ := hrel
        have HB := hid hB
        obtain ⟨av, cv, hv, _⟩ := OwnGo.gous hO
        obtain ⟨la, lc, mb, hS⟩ := hS
        subst hv
        by_cases hlt2 : j < n
        · have hl2 : (j : Int) < (n : Int) := by omega
          have j0 : (0 : Int) ≤ (j : Int) := by omega
          rcases HH.out.2 with h00 | ⟨ga, off, hga, hgl, hc⟩
          · omega
          subst hga
          obtain ⟨c0, c1, c2, c3, c4, hints⟩ := hc j hlt2
          obtain ⟨pel, txl⟩ := HPE.out j hlt2
          have gr1 : gR i o (j + 1) = ((gOne i (gR i o j).1 (o j)).1, (gR i o j).2 ++ [(gOne i (gR i o j).1 (o j)).2]) := rfl
          have okj := gR_ok i o j
          have lenj := gR_len i o j
          rcases hE : o j with ⟨kd, mbr, dt, pe, tx⟩
          rw [hE] at c0 c1 c2 c3 c4 hints pel txl gr1
          dsimp only at c0 c1 c2 c3 c4 hints pel txl
          generalize pa j = PA at c3 hints
          generalize pc j = PC at c3 hints
          obtain ⟨st, hst⟩ : ∃ x, x = (gR i o j).1 := ⟨_, rfl⟩
          obtain ⟨GL, hGL⟩ : ∃ x, x = (gR i o j).2 := ⟨_, rfl⟩
          rw [← hst] at hS gr1 okj
          rw [← hGL] at hO hY gr1 lenj
          have e0 := (hB.cell (p := ⟨ga, off + j * 5, none⟩) hgl).trans c0
          have e1 := (hB.cell (p := ⟨ga, off + j * 5 + 1, none⟩) hgl).trans c1
          have e2 := (hB.cell (p := ⟨ga, off + j * 5 + 2, none⟩) hgl).trans c2
          have e3 := (hB.cell (p := ⟨ga, off + j * 5 + 3, none⟩) hgl).trans c3
          have e4 := (hB.cell (p := ⟨ga, off + j * 5 + 4, none⟩) hgl).trans c4
          have HINT := hid hints
          have HGR1 := hid gr1
          have HOK := hid okj
          have LN : Hid (GL.length ≤ 1048576) := by show _ ≤ _; rw [lenj]; omega
          obtain ⟨X9, hX9⟩ : ∃ X, X = wr.heap.size := ⟨_, rfl⟩
          obtain ⟨W5, hW5⟩ : ∃ W, W = wr.alloc (.cells #[.int .i64 kd, .int .i64 mbr, .int .i64 dt, .slice PA pe.length PC, .string tx] 42) := ⟨_, rfl⟩
          have b5 : Below wr.heap.size wr W5 := by rw [hW5]; exact (Below.refl _ _).alloc (Nat.le_refl _) _
          have S5 := hid (hS.below b5)
          have Y5 := hid (hY.below b5 hY.lt)
          have O5 := hid (OwnGo.below hO b5)
          have Q5 := hid (hQ.below b5 hQ.lt)
          have B5 := hid (hB.trans (b5.mono hB.size))
          have Z5 : Hid (X7 + 1 ≤ W5.heap.size) := Nat.le_trans hZ b5.size
          have P5 : Hid (RowAt W5 X9 42 #[.int .i64 kd, .int .i64 mbr, .int .i64 dt, .slice PA pe.length PC, .string tx]) := by rw [hW5, hX9]; exact RowAt.new _ _ _
          have HX9 := hid hX9
          have HW5 := hid hW5
          clear hst hGL hc c0 c1 c2 c3 c4 hints gr1 okj lenj hE hS hY hO hQ hB hZ HB hX9 hW5 b5 S4 Q4 B4 Y4 z4
          go_upto_region 14 with ((refine wpList_store_row rfl 42 (.tmp 9) (.tmp 51) rfl wr.heap.size #[.int .i64 kd, .int .i64 mbr, .int .i64 dt, .slice PA pe.length PC, .string tx] rfl rfl _ _ (RowAt.new wr _ _) (by kernel_rfl) rfl (by simp [Value.oneCell']) ?_); rw [World.setRow_alloc_new])
          rw [← HW5.out, ← HX9.out]
          clear HW5 HX9 e0 e1 e2 e3 e4
          have p1 := P5.out.cell 1
          have y5 := Y5.out.cell 0
          by_cases ha : mbr < 0
          · have GN : Hid (gOne i st ⟨kd, mbr, dt, pe, tx⟩ = (st, ⟨1, 0, 0⟩)) := hid (by unfold gOne; rw [if_neg (by unfold gIn; simp; omega)])
            go_upto_region 15 with fail
            clear p1
            have HGR := hid (show gR i o (j + 1) = (st, GL ++ [(⟨1, 0, 0⟩ : Gou)]) by rw [HGR1.out, GN.out])
            go_wp2_with ((at_builtin; refine append_go w.heap.size W5 rfl (.tmp 62) (.tmp 64) rfl _ GL 1 0 0 rfl O5.out B5.out.size rfl LN.out ?_; intro v9 w9 hO9 hg9; obtain ⟨a9, c9, hv9, _⟩ := OwnGo.gous hO9; have hl9 : (GL ++ [(⟨1, 0, 0⟩ : Gou)]).length = GL.length + 1 := (by rw [List.length_append]; rfl); rw [hl9] at hv9; clear hl9; subst hv9; have Y9 := O5.out.far hg9 Y5.out (by decide); have y9 := Y9.cell 0; have f9 := Y9.free 0))
            have S9 := hid (S5.out.ownO O5.out hg9)
            have Q9 := hid (O5.out.far hg9 Q5.out (by decide))
            have B9 := hid (below_ownO B5.out O5.out (Nat.le_refl _) hg9)
            have Z9 : Hid (X7 + 1 ≤ w9.heap.size) := Nat.le_trans Z5.out hg9.size
            have NS := hid (S9.out.asideC Y9 (by decide) (by decide) (by decide) 0 (.slice a9 (GL.length + 1) c9))
            have NY : Hid (RowAt (w9.setCell ⟨X7, 0, none⟩ (.slice a9 (GL.length + 1) c9)) X7 31 #[.slice a9 (GL.length + 1) c9, .slice none 0 0]) := Y9.set 0 _
            have NO := hid (OwnGo.setO hO9 Y9 (by decide) 0 (.slice a9 (GL.length + 1) c9))
            have NQ := hid (Q9.out.other ⟨X7, 0, none⟩ (.slice a9 (GL.length + 1) c9) (by simp; omega))
            have NB := hid (B9.out.setCell (p := ⟨X7, 0, none⟩) h7.out (.slice a9 (GL.length + 1) c9))
            have NZ : Hid (X7 + 1 ≤ (w9.setCell ⟨X7, 0, none⟩ (.slice a9 (GL.length + 1) c9)).heap.size) := by show _ ≤ _; simp only [World.setCell, Array.size_modify]; exact Z9.out
            clear hg9 hO9 S9 Q9 B9 Z9 S5 O5 Y5 Q5 B5 Z5
            go_wp2
            go_roundw
            case rel => exact ⟨j + 1, _, by omega, by go_num, by rw [HGR.out]; exact ⟨_, _, _, NS.out⟩, NY.out, by rw [HGR.out]; exact NO.out, NQ.out, NB.out, NZ.out⟩
            case measure => simp [intOf]; omega
          by_cases hb' : (i : Int) ≤ mbr
          · have GN : Hid (gOne i st ⟨kd, mbr, dt, pe, tx⟩ = (st, ⟨1, 0, 0⟩)) := hid (by unfold gOne; rw [if_neg (by unfold gIn; simp; omega)])
            go_upto_region 15 with fail
            clear p1
            have HGR := hid (show gR i o (j + 1) = (st, GL ++ [(⟨1, 0, 0⟩ : Gou)]) by rw [HGR1.out, GN.out])
            go_wp2_with ((at_builtin; refine append_go w.heap.size W5 rfl (.tmp 62) (.tmp 64) rfl _ GL 1 0 0 rfl O5.out B5.out.size rfl LN.out ?_; intro v9 w9 hO9 hg9; obtain ⟨a9, c9, hv9, _⟩ := OwnGo.gous hO9; have hl9 : (GL ++ [(⟨1, 0, 0⟩ : Gou)]).length = GL.length + 1 := (by rw [List.length_append]; rfl); rw [hl9] at hv9; clear hl9; subst hv9; have Y9 := O5.out.far hg9 Y5.out (by decide); have y9 := Y9.cell 0; have f9 := Y9.free 0))
            have S9 := hid (S5.out.ownO O5.out hg9)
            have Q9 := hid (O5.out.far hg9 Q5.out (by decide))
            have B9 := hid (below_ownO B5.out O5.out (Nat.le_refl _) hg9)
            have Z9 : Hid (X7 + 1 ≤ w9.heap.size) := Nat.le_trans Z5.out hg9.size
            have NS := hid (S9.out.asideC Y9 (by decide) (by decide) (by decide) 0 (.slice a9 (GL.length + 1) c9))
            have NY : Hid (RowAt (w9.setCell ⟨X7, 0, none⟩ (.slice a9 (GL.length + 1) c9)) X7 31 #[.slice a9 (GL.length + 1) c9, .slice none 0 0]) := Y9.set 0 _
            have NO := hid (OwnGo.setO hO9 Y9 (by decide) 0 (.slice a9 (GL.length + 1) c9))
            have NQ := hid (Q9.out.other ⟨X7, 0, none⟩ (.slice a9 (GL.length + 1) c9) (by simp; omega))
            have NB := hid (B9.out.setCell (p := ⟨X7, 0, none⟩) h7.out (.slice a9 (GL.length + 1) c9))
            have NZ : Hid (X7 + 1 ≤ (w9.setCell ⟨X7, 0, none⟩ (.slice a9 (GL.length + 1) c9)).heap.size) := by show _ ≤ _; simp only [World.setCell, Array.size_modify]; exact Z9.out
            clear hg9 hO9 S9 Q9 B9 Z9 S5 O5 Y5 Q5 B5 Z5
            go_wp2
            go_roundw
            case rel => exact ⟨j + 1, _, by omega, by go_num, by rw [HGR.out]; exact ⟨_, _, _, NS.out⟩, NY.out, by rw [HGR.out]; exact NO.out, NQ.out, NB.out, NZ.out⟩
            case measure => simp [intOf]; omega
          obtain ⟨k, rfl⟩ := Int.eq_ofNat_of_zero_le (show 0 ≤ mbr by omega)
          have kN : k < i := by omega
          have k0 : (0 : Int) ≤ (k : Int) := by omega
          have kI : (k : Int) < (i : Int) := by omega
          have KC := hid (sDo w bM i k N9 kN st (fun q _ => ⟨(HOK.out q).tm0, by have := (HOK.out q).tm1; omega, (HOK.out q).lg⟩) kd dt PA PC pe tx pel HINT.out (by omega) W5 ⟨_, _, _, S5.out⟩ B5.out)
          have GN : Hid (∀ GA g1 g2 g3, gDo i st k ⟨kd, (k : Int), dt, pe, tx⟩ = (GA, (⟨g1, g2, g3⟩ : Gou)) → gOne i st ⟨kd, (k : Int), dt, pe, tx⟩ = (GA, ⟨g1, g2, ((GA k).cm : Int)⟩)) := fun GA g1 g2 g3 hq => by
            unfold gOne
            rw [if_pos (by unfold gIn; simp; omega)]
            dsimp only
            rw [Int.toNat_natCast, hq]
          have p0 := P5.out.cell 0
          have p2 := P5.out.cell 2
          have p3 := P5.out.cell 3
          have p4 := P5.out.cell 4
          go_upto_region 16 with fail
          go_wp2_with fail
          refine KC.out.mono ?_
          rintro e w6 ⟨rfl, ⟨la6, lc6, mb6, h6⟩, hb6, hk6⟩
          have P6 := hid (hk6.row _ _ _ (by decide) (by decide) P5.out)
          have Y6 := hid (hk6.row _ _ _ (by decide) (by decide) Y5.out)
          have Q6 := hid (hk6.row _ _ _ (by decide) (by decide) Q5.out)
          have O6 := hid (OwnGo.kp O5.out hk6)
          have Z6 : Hid (X7 + 1 ≤ w6.heap.size) := Nat.le_trans Z5.out hk6.size
          have S6 := hid h6
          have B6 := hid hb6
          clear h6 hb6 hk6 p0 p1 p2 p3 p4 y5 KC S5 P5 Y5 Q5 O5 Z5 B5
          rcases hGG : gDo i st k ⟨kd, (k : Int), dt, pe, tx⟩ with ⟨GA, g1, g2, g3⟩
          have GN2 := hid (GN.out GA g1 g2 g3 hGG)
          rw [hGG] at S6
          dsimp only at S6
          clear hGG GN
          obtain ⟨X10, hX10⟩ : ∃ X, X = w6.heap.size := ⟨_, rfl⟩
          obtain ⟨W7, hW7⟩ : ∃ W, W = w6.alloc (.cells #[.int .i64 g1, .int .i64 g2, .int .i64 g3] 34) := ⟨_, rfl⟩
          have b7 : Below w6.heap.size w6 W7 := by rw [hW7]; exact (Below.refl _ _).alloc (Nat.le_refl _) _
          have P7 := hid (P6.out.below b7 P6.out.lt)
          have Y7 := hid (Y6.out.below b7 Y6.out.lt)
          have Q7 := hid (Q6.out.below b7 Q6.out.lt)
          have O7 := hid (OwnGo.below O6.out b7)
          have S7 := hid (S6.out.below b7)
          have B7 := hid (B6.out.trans (b7.mono B6.out.size))
          have Z7 : Hid (X7 + 1 ≤ W7.heap.size) := Nat.le_trans Z6.out b7.size
          have U7 : Hid (RowAt W7 X10 34 #[.int .i64 g1, .int .i64 g2, .int .i64 g3]) := by rw [hW7, hX10]; exact RowAt.new _ _ _
          have nO : Hid (some X10 ≠ (Value.slice av GL.length cv).ownBlock) := fun e => by have := (World.ownsRow.lt O6.out X10 e.symm).2; omega
          have xb : Hid (w.heap.size ≤ X10) := by rw [hX10]; exact B6.out.size
          have HX10 := hid hX10
          have HW7 := hid hW7
          clear hX10 hW7 b7 P6 Y6 Q6 O6 S6 B6 Z6
          go_upto_region 17 with ((refine wpList_store_row rfl 34 (.tmp 10) (.tmp 69) rfl w6.heap.size #[.int .i64 g1, .int .i64 g2, .int .i64 g3] rfl rfl _ _ (RowAt.new w6 _ _) (by kernel_rfl) rfl (by simp [Value.oneCell']) ?_); rw [World.setRow_alloc_new])
          rw [← HW7.out, ← HX10.out]
          clear HW7 HX10
          have p1 := P7.out.cell 1
          have cm := (S7.out.cells kN).2.2.2.1
          have w72 := U7.out.cell 2
          have fu := U7.out.free 2
          obtain ⟨W8, hW8⟩ : ∃ W, W = W7.setCell ⟨X10, 2, none⟩ (.int .i64 ((GA k).cm : Int)) := ⟨_, rfl⟩
          have S8 : Hid (SpL W8 w.heap.size bM i GA la6 lc6 mb6) := by rw [hW8]; exact S7.out.asideC U7.out (by decide) (by decide) (by decide) 2 _
          have Y8 : Hid (RowAt W8 X7 31 #[.slice av GL.length cv, .slice none 0 0]) := by rw [hW8]; exact Y7.out.other _ _ (row_apart Y7.out U7.out (by decide))
          have Q8 : Hid (RowAt W8 X4 31 Z2) := by rw [hW8]; exact Q7.out.other _ _ (row_apart Q7.out U7.out (by decide))
          have U8 : Hid (RowAt W8 X10 34 #[.int .i64 g1, .int .i64 g2, .int .i64 ((GA k).cm : Int)]) := by rw [hW8]; exact U7.out.set 2 _
          have O8 : Hid (OwnGo W8 w.heap.size (.slice av GL.length cv) GL) := by
            rw [hW8]
            exact World.ownsRow.kept O7.out grown_set (by
              cases hv : (Value.slice av GL.length cv).ownBlock with
              | none => exact .inl rfl
              | some g => exact .inr (by rw [← hv]; exact Ne.symm nO.out))
          have B8 : Hid (Below w.heap.size w W8) := by rw [hW8]; exact B7.out.setCell xb.out _
          have Z8 : Hid (X7 + 1 ≤ W8.heap.size) := by rw [hW8]; show _ ≤ _; simp only [World.setCell, Array.size_modify]; exact Z7.out
          have HW8 := hid hW8
          clear hW8 P7 Y7 Q7 S7 O7 B7 Z7 U7 nO
          go_upto_region 18 with fail
          rw [← HW8.out]
          clear HW8 p1 cm w72 fu
          have y8 := Y8.out.cell 0
          have w80 := U8.out.cell 0
          have w81 := U8.out.cell 1
          have w82 := U8.out.cell 2
          have HGR := hid (show gR i o (j + 1) = (GA, GL ++ [(⟨g1, g2, ((GA k).cm : Int)⟩ : Gou)]) by rw [HGR1.out, GN2.out])
          go_wp2_with ((at_builtin; refine append_go w.heap.size W8 rfl (.tmp 78) (.tmp 80) rfl _ GL g1 g2 (((GA k).cm : Int)) rfl O8.out B8.out.size rfl LN.out ?_; intro v9 w9 hO9 hg9; obtain ⟨a9, c9, hv9, _⟩ := OwnGo.gous hO9; have hl9 : (GL ++ [(⟨g1, g2, ((GA k).cm : Int)⟩ : Gou)]).length = GL.length + 1 := (by rw [List.length_append]; rfl); rw [hl9] at hv9; clear hl9; subst hv9; have Y9 := O8.out.far hg9 Y8.out (by decide); have y9 := Y9.cell 0; have f9 := Y9.free 0))
          have S9 := hid (S8.out.ownO O8.out hg9)
          have Q9 := hid (O8.out.far hg9 Q8.out (by decide))
          have B9 := hid (below_ownO B8.out O8.out (Nat.le_refl _) hg9)
          have Z9 : Hid (X7 + 1 ≤ w9.heap.size) := Nat.le_trans Z8.out hg9.size
          have NS := hid (S9.out.asideC Y9 (by decide) (by decide) (by decide) 0 (.slice a9 (GL.length + 1) c9))
          have NY : Hid (RowAt (w9.setCell ⟨X7, 0, none⟩ (.slice a9 (GL.length + 1) c9)) X7 31 #[.slice a9 (GL.length + 1) c9, .slice none 0 0]) := Y9.set 0 _
          have NO := hid (OwnGo.setO hO9 Y9 (by decide) 0 (.slice a9 (GL.length + 1) c9))
          have NQ := hid (Q9.out.other ⟨X7, 0, none⟩ (.slice a9 (GL.length + 1) c9) (by simp; omega))
          have NB := hid (B9.out.setCell (p := ⟨X7, 0, none⟩) h7.out (.slice a9 (GL.length + 1) c9))
          have NZ : Hid (X7 + 1 ≤ (w9.setCell ⟨X7, 0, none⟩ (.slice a9 (GL.length + 1) c9)).heap.size) := by show _ ≤ _; simp only [World.setCell, Array.size_modify]; exact Z9.out
          clear hg9 hO9 S9 Q9 B9 Z9 S8 O8 Y8 Q8 B8 Z8
          go_wp2
          go_roundw
          case rel => exact ⟨j + 1, _, by omega, by go_num, by rw [HGR.out]; exact ⟨_, _, _, NS.out⟩, NY.out, by rw [HGR.out]; exact NO.out, NQ.out, NB.out, NZ.out⟩
          case measure => simp [intOf]; omega
        · have ej : j = n := by omega
          have hl2 : ¬ (j : Int) < (n : Int) := by omega
          obtain ⟨st, hst⟩ : ∃ x, x = (gR i o j).1 := ⟨_, rfl⟩
          obtain ⟨GL, hGL⟩ : ∃ x, x = (gR i o j).2 := ⟨_, rfl⟩
          rw [← hst] at hS
          rw [← hGL] at hO hY
          have HR : Hid (gR i o n = (st, GL)) := hid (by rw [hst, hGL, ← ej])
          obtain ⟨WE, hWE⟩ : ∃ W, W = wr.setCell ⟨X7, 1, none⟩ (.slice (some ⟨bM, 0, none⟩) i i) := ⟨_, rfl⟩
          have y1 := hY.cell 1
          have f1 := hY.free 1
          have SE : Hid (SpL WE w.heap.size bM i st la lc mb) := by rw [hWE]; exact hS.asideC hY (by decide) (by decide) (by decide) 1 _
          have YE : Hid (RowAt WE X7 31 #[.slice av GL.length cv, .slice (some ⟨bM, 0, none⟩) i i]) := by rw [hWE]; exact hY.set 1 _
          have OE : Hid (OwnGo WE w.heap.size (.slice av GL.length cv) GL) := by rw [hWE]; exact OwnGo.setO hO hY (by decide) 1 _
          have QE : Hid (RowAt WE X4 31 Z2) := by rw [hWE]; exact hQ.other _ _ (by simp; omega)
          have BE : Hid (Below w.heap.size w WE) := by rw [hWE]; exact hB.setCell h7.out _
          have x4 : Hid (w.heap.size ≤ X4) := by rw [HX4.out]; exact Nat.le_refl _
          have HWE := hid hWE
          clear hst hGL hS hY hO hQ hB hWE HB
          go_upto_region 20 with fail
          rw [← HWE.out]
          clear HWE y1 f1
          have e0 := YE.out.cell 0
          have e1 := YE.out.cell 1
          go_wp2_with (refine wpList_store_row rfl 31 (.tmp 4) (.tmp 85) rfl X4 #[.slice av GL.length cv, .slice (some ⟨bM, 0, none⟩) i i] rfl rfl _ _ QE.out (by kernel_rfl) rfl (by simp [Value.oneCell']) ?_)
          try simp only [Exit.inBlock, Exit.then]
          refine bodyPost_ret (v := .agg #[.slice av GL.length cv, .slice (some ⟨bM, 0, none⟩) i i]) ?_ rfl ⟨.inr ⟨hok.out, bM, .slice av GL.length cv, rfl, ?_, ?_⟩, below_setRow BE.out _ _ x4.out⟩
          · exact results_cell_row Try.results7 _ _ X4 _ _ _ _ rfl (QE.out.setRow _) Try.underlying31 rfl (by kernel_rfl)
          · rw [Int.toNat_natCast, HR.out]
            exact OwnGo.setRowO OE.out QE.out (by decide) _
          · rw [Int.toNat_natCast, HR.out]
            exact ⟨la, lc, mb, SE.out.aside QE.out (by decide) (by decide) (by decide) _⟩
end Go.Proofs.Ytmhkelfmciepaaa
