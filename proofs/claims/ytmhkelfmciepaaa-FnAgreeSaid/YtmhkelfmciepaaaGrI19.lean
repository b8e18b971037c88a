import Derived.Test.YtmhkelfmciepaaaGrI18
namespace Go.Proofs.Ytmhkelfmciepaaa
open Go.RowKit
set_option linter.unusedVariables false
/-! The program's RunGroup (by gengri9.py). -/
theorem OwnGe.mono {w : World} {B B2 : Nat} {v : Value} {L : List Ge} (h : OwnGe w B v L) (hb : B2 ≤ B) : OwnGe w B2 v L := by
  refine ⟨h.1, ?_⟩
  rcases h.2 with h0 | ⟨g, cap, cur, he, h1, hr⟩
  · exact .inl h0
  · exact .inr ⟨g, cap, cur, he, Nat.le_trans hb h1, hr⟩
theorem GpL.mono {w : World} {B B2 gb N : Nat} {s : Gst} {pb : Nat → Nat} {la : Nat → Option Addr} {lc mb : Nat → Nat} (h : GpL w B gb N s pb la lc mb) (hb : B2 ≤ B) : GpL w B2 gb N s pb la lc mb :=
  ⟨Nat.le_trans hb h.lo, h.all, h.mem, fun k hk => Nat.le_trans hb (h.mlo k hk), fun k hk => (h.log k hk).mono hb, fun k hk => ⟨(h.mat k hk).1, Nat.le_trans hb (h.mat k hk).2.1, (h.mat k hk).2.2⟩, h.nep, h.nem, h.nel⟩
theorem OwnGo.kq {w w' : World} {base : Nat} {v : Value} {L : List Gou} (h : OwnGo w base v L) (hk : Kq w w') : OwnGo w' base v L := by
  refine ⟨h.1, ?_⟩
  rcases h.2 with h0 | ⟨g, cap, cur, he, hb, hr, hrest⟩
  · exact .inl h0
  · exact .inr ⟨g, cap, cur, he, hb, hk.row _ _ _ (by decide) (by decide) (by decide) hr, hrest⟩
/-- what the program's run answers -/
def AnsGI (mem : Int) (n : Nat) (o : Nat → Gop) (w : World) (e : Ending) (w' : World) : Prop :=
  ((¬ grP mem n ∧ e = .returned (.agg #[.slice none 0 0, .slice none 0 0])) ∨
   (grP mem n ∧ ∃ g c v la lc mb, e = .returned (.agg #[v, .slice (some ⟨g, 0, none⟩) mem.toNat c]) ∧ OwnGo w' w.heap.size v (gR mem.toNat o n).2 ∧ MmL w' w.heap.size g c mem.toNat (gR mem.toNat o n).1 la lc mb)) ∧ Below w.heap.size w w'
theorem Try.infoGo3 : (Try.prog.info? 34).map (fun i => (i.zero, i.size, i.bytes)) = some (some (.agg #[.int .i64 0, .int .i64 0, .int .i64 0]), 3, 24) := by kernel_rfl
theorem mkGo0 (w : World) (n : Nat) (hn : n ≤ 1048576) : (Instr.makeSlice 28 (.int .i64 0) (.int .i64 n)).run Try.prog w = .ok (.slice (some ⟨w.heap.size, 0, none⟩) 0 n) (w.alloc (.cells (madeCells #[.int .i64 0, .int .i64 0, .int .i64 0] (n * 3)) 34)) := by
  obtain ⟨i0, hi, hz0, hz1, hz2⟩ := info_parts Try.infoGo3
  have := run_make (P := Try.prog) w 28 34 i0 _ Try.underlying28 hi hz0 .i64 .i64 0 n (by omega) (by omega) (by rw [hz2]; omega) (by omega)
  rw [this, hz1]
  simp only [Int.toNat_natCast, Value.cells]
  rfl
set_option maxRecDepth 20000 in
set_option maxHeartbeats 8000000 in
theorem iRun (mem : Int) (a : Option Addr) (n cap : Nat) (o : Nat → Gop) (pa : Nat → Option Addr) (pc : Nat → Nat) (hn : n ≤ 1048576) (hpe : ∀ k, k < n → (o k).pe.length ≤ 1048576 ∧ (o k).tx.size ≤ 1048576) (w : World) (h : Gops w a n cap o pa pc) :
    Calls Try.prog 6 #[.int .i64 mem, .slice a n cap] w fun e w' => AnsGI mem n o w e w' := by
  have HH := hid h
  have HPE := hid hpe
  have hnc := h.1
  clear h hpe
  obtain ⟨X4, hX4⟩ : ∃ X, X = w.heap.size := ⟨_, rfl⟩
  obtain ⟨W1, hW1⟩ : ∃ W, W = w.alloc (.cells Z2 31) := ⟨_, rfl⟩
  have Q1 : Hid (RowAt W1 X4 31 Z2) := by rw [hW1, hX4]; exact RowAt.new _ _ _
  have B1 : Hid (Below w.heap.size w W1) := by rw [hW1]; exact (Below.refl _ _).alloc (Nat.le_refl _) _
  have HX4 := hid hX4
  have HW1 := hid hW1
  clear hX4 hW1
  have bad : ∀ (hbad : ¬ grP mem n), (fun e w' => AnsGI mem n o w e w') (.returned (.agg Z2)) (W1.setRow X4 Z2) := fun hbad => ⟨.inl ⟨hbad, rfl⟩, below_setRow B1.out _ _ (by rw [HX4.out]; exact Nat.le_refl _)⟩
  have BAD := hid bad
  clear bad
  by_cases m1 : mem < 1
  · have nb : ¬ grP mem n := fun q => by have := q.1; omega
    have d1 : decide (mem < 1) = true := decide_eq_true m1
    have HB := hid (BAD.out nb)
    go_enter Try.func6, Try.ntmps6
    go_upto_region 1 with fail
    rw [← HW1.out, ← HX4.out]
    go_upto_region 2 with fail
    go_wp2_with (refine wpList_store_row rfl 31 (.tmp 4) (.tmp 20) rfl X4 Z2 rfl rfl _ _ Q1.out (by kernel_rfl) rfl (by simp [Value.oneCell']) ?_)
    try simp only [Exit.inBlock, Exit.then]
    refine bodyPost_ret (v := .agg Z2) ?_ rfl HB.out
    exact results_cell_row Try.results6 _ _ X4 _ _ _ _ rfl (Q1.out.setRow _) Try.underlying31 rfl (by kernel_rfl)
  have d1 : decide (mem < 1) = false := decide_eq_false m1
  by_cases m9 : 9 < mem
  · have nb : ¬ grP mem n := fun q => by have := q.2.1; omega
    have d2 : decide (9 < mem) = true := decide_eq_true m9
    have HB := hid (BAD.out nb)
    go_enter Try.func6, Try.ntmps6
    go_upto_region 1 with fail
    rw [← HW1.out, ← HX4.out]
    go_upto_region 2 with fail
    go_wp2_with (refine wpList_store_row rfl 31 (.tmp 4) (.tmp 20) rfl X4 Z2 rfl rfl _ _ Q1.out (by kernel_rfl) rfl (by simp [Value.oneCell']) ?_)
    try simp only [Exit.inBlock, Exit.then]
    refine bodyPost_ret (v := .agg Z2) ?_ rfl HB.out
    exact results_cell_row Try.results6 _ _ X4 _ _ _ _ rfl (Q1.out.setRow _) Try.underlying31 rfl (by kernel_rfl)
  have d2 : decide (9 < mem) = false := decide_eq_false m9
  by_cases mo : 2000 < n
  · have nb : ¬ grP mem n := fun q => by have := q.2.2; omega
    have d3 : decide ((2000 : Int) < (n : Int)) = true := decide_eq_true (by omega)
    have HB := hid (BAD.out nb)
    go_enter Try.func6, Try.ntmps6
    go_upto_region 1 with fail
    rw [← HW1.out, ← HX4.out]
    go_upto_region 2 with fail
    go_wp2_with (refine wpList_store_row rfl 31 (.tmp 4) (.tmp 20) rfl X4 Z2 rfl rfl _ _ Q1.out (by kernel_rfl) rfl (by simp [Value.oneCell']) ?_)
    try simp only [Exit.inBlock, Exit.then]
    refine bodyPost_ret (v := .agg Z2) ?_ rfl HB.out
    exact results_cell_row Try.results6 _ _ X4 _ _ _ _ rfl (Q1.out.setRow _) Try.underlying31 rfl (by kernel_rfl)
  have d3 : decide ((2000 : Int) < (n : Int)) = false := decide_eq_false (by omega)
  obtain ⟨N, rfl⟩ := Int.eq_ofNat_of_zero_le (show 0 ≤ mem by omega)
  have hok : Hid (grP (N : Int) n) := ⟨by omega, by omega, by omega⟩
  have N9 : N ≤ 9 := by omega
  have N1 : 1 ≤ N := by omega
  have n2 : n ≤ 2000 := by omega
  clear BAD m1 m9 mo
  have KN := hid (iNew N N9 W1)
  go_enter Try.func6, Try.ntmps6
  go_upto_region 1 with fail
  rw [← HW1.out, ← HX4.out]
  clear HW1
  go_upto_region 3 with fail
  go_wp2_with fail
  refine KN.out.mono ?_
  rintro e w2 ⟨gb, pb, rfl, ⟨la2, lc2, mb2, hG2⟩, hb2⟩
  have G2 := hid (hG2.mono B1.out.size)
  have Q2 := hid (Q1.out.below hb2 Q1.out.lt)
  have B2 := hid (B1.out.trans (hb2.mono B1.out.size))
  clear hG2 hb2 KN Q1 B1
  obtain ⟨X6, hX6⟩ : ∃ X, X = w2.heap.size := ⟨_, rfl⟩
  obtain ⟨W3, hW3⟩ : ∃ W, W = w2.alloc (.cells (madeCells #[.int .i64 0, .int .i64 0, .int .i64 0] (n * 3)) 34) := ⟨_, rfl⟩
  have hmk := mkGo0 w2 n (by omega)
  rw [← hX6, ← hW3] at hmk
  have b3 : Below w2.heap.size w2 W3 := by rw [hW3]; exact (Below.refl _ _).alloc (Nat.le_refl _) _
  have O3 : Hid (OwnGo W3 w.heap.size (.slice (some ⟨X6, 0, none⟩) 0 n) []) := by
    refine ⟨rfl, .inr ⟨X6, n, madeCells #[.int .i64 0, .int .i64 0, .int .i64 0] (n * 3), rfl, by rw [hX6]; exact B2.out.size, ?_, Nat.zero_le _, by unfold maxLen; omega, by simp [madeCells], by simp [gouL]⟩⟩
    rw [hW3, hX6]
    exact RowAt.new _ _ _
  have G3 := hid (G2.out.below b3)
  have Q3 := hid (Q2.out.below b3 Q2.out.lt)
  have B3 := hid (B2.out.trans (b3.mono B2.out.size))
  clear hX6 hW3 b3 G2 Q2 B2
  go_wp2_with fail
  clear hmk d1 d2 d3
  go_loopw [6, 8, 28] (fun y6 y8 y28 wr => ∃ (i c : Nat) (av : Option Addr), i ≤ n ∧ y28 = .int .i64 (i : Int) ∧ y6 = .slice av i c ∧ OwnGo wr w.heap.size (.slice av i c) (gR N o i).2 ∧ GpAt wr w.heap.size gb N (gR N o i).1 pb ∧ RowAt wr X4 31 Z2 ∧ Below w.heap.size w wr) (fun _ _ y28 _ => n - (intOf y28).toNat)
  case atStart => exact ⟨0, n, some ⟨X6, 0, none⟩, Nat.zero_le _, rfl, rfl, O3.out, ⟨_, _, _, G3.out⟩, Q3.out, B3.out⟩
  case round =>
    obtain ⟨i, c, av, hi, rfl, rfl, hO, hG, hQ, hB⟩ := hrel
    have OO := hid hO
    have GG := hid hG
    have QQ := hid hQ
    have BB := hid hB
    clear hO hG hQ hB O3 G3 Q3 B3
    by_cases hlt : i < n
    · have hlt' : (i : Int) < (n : Int) := by omega
      have i0 : (0 : Int) ≤ (i : Int) := by omega
      rcases HH.out.2 with h00 | ⟨b, off, hA, hbl, hc⟩
      · omega
      subst hA
      obtain ⟨x0, x1, x2, x3, x4, x5⟩ := hc i hlt
      have c0 := (BB.out.cell (p := ⟨b, off + i * 5, none⟩) hbl).trans x0
      have c1 := (BB.out.cell (p := ⟨b, off + i * 5 + 1, none⟩) hbl).trans x1
      have c2 := (BB.out.cell (p := ⟨b, off + i * 5 + 2, none⟩) hbl).trans x2
      have c3 := (BB.out.cell (p := ⟨b, off + i * 5 + 3, none⟩) hbl).trans x3
      have c4 := (BB.out.cell (p := ⟨b, off + i * 5 + 4, none⟩) hbl).trans x4
      have HP := hid x5
      obtain ⟨hp1, hp2⟩ := HPE.out i hlt
      obtain ⟨ST, hST⟩ : ∃ S, S = (gR N o i).1 := ⟨_, rfl⟩
      obtain ⟨GL, hGL⟩ : ∃ S, S = (gR N o i).2 := ⟨_, rfl⟩
      have hok2 := gR_ok N o i
      rw [← hST] at GG hok2
      rw [← hGL] at OO
      have HT : Hid (∀ j, j < N → 0 ≤ (ST j).tm ∧ (ST j).tm ≤ 1000000 ∧ (ST j).lg.length ≤ 500) := fun j _ => ⟨(hok2 j).tm0, by have := (hok2 j).tm1; omega, (hok2 j).lg⟩
      have HL : Hid (GL.length = i) := hid (by rw [hGL]; exact gR_len N o i)
      have HN : Hid (gR N o (i + 1) = ((gOne N ST (o i)).1, GL ++ [(gOne N ST (o i)).2])) := hid (by rw [gR, ← hST, ← hGL])
      obtain ⟨OI, hOI⟩ : ∃ x, x = o i := ⟨_, rfl⟩
      rw [← hOI] at c0 c1 c2 c3 c4 HP hp1 hp2 HN
      obtain ⟨kd, mbr, dt, pe, tx⟩ := OI
      dsimp only at c0 c1 c2 c3 c4 HP hp1 hp2
      obtain ⟨PA, hPA⟩ : ∃ x, x = pa i := ⟨_, rfl⟩
      obtain ⟨PC, hPC⟩ : ∃ x, x = pc i := ⟨_, rfl⟩
      rw [← hPA, ← hPC] at c3 HP
      clear x0 x1 x2 x3 x4 x5 hc hST hGL hok2 hOI hPA hPC
      obtain ⟨X8, hX8⟩ : ∃ X, X = wr.heap.size := ⟨_, rfl⟩
      obtain ⟨W5, hW5⟩ : ∃ W, W = wr.alloc (.cells #[.int .i64 kd, .int .i64 mbr, .int .i64 dt, .slice PA pe.length PC, .string tx] 42) := ⟨_, rfl⟩
      have b5 : Below wr.heap.size wr W5 := by rw [hW5]; exact (Below.refl _ _).alloc (Nat.le_refl _) _
      have P5 : Hid (RowAt W5 X8 42 #[.int .i64 kd, .int .i64 mbr, .int .i64 dt, .slice PA pe.length PC, .string tx]) := by rw [hW5, hX8]; exact RowAt.new _ _ _
      have O5 := hid (OO.out.kq ((Kq.refl wr).below b5))
      have G5 : Hid (GpAt W5 w.heap.size gb N ST pb) := by obtain ⟨l1, l2, l3, g⟩ := GG.out; exact ⟨l1, l2, l3, g.below b5⟩
      have Q5 := hid (QQ.out.below b5 QQ.out.lt)
      have B5 := hid (BB.out.trans (b5.mono BB.out.size))
      have HX8 := hid hX8
      have HW5 := hid hW5
      clear hX8 hW5 b5 OO GG QQ BB
      have KD := hid (iGDo w gb N N9 ST pb HT.out kd mbr dt PA PC pe tx hp1 hp2 HP.out W5 G5.out B5.out)
      rcases hGG : gOne N ST ⟨kd, mbr, dt, pe, tx⟩ with ⟨GS, g1, g2, g3⟩
      rw [hGG] at KD HN
      dsimp only at KD HN
      unfold gv at KD
      dsimp only at KD
      clear hGG
      go_upto_region 8 with fail
      rw [← HW5.out, ← HX8.out]
      clear HW5 HX8 c0 c1 c2 c3 c4
      have p0 := P5.out.cell 0
      have p1 := P5.out.cell 1
      have p2 := P5.out.cell 2
      have p3 := P5.out.cell 3
      have p4 := P5.out.cell 4
      go_wp2_with fail
      refine KD.out.mono ?_
      rintro e w7 ⟨rfl, hG7, hK7, hB7⟩
      have O7 := hid (O5.out.kq hK7)
      have G7 := hid hG7
      have Q7 := hid (hK7.row _ _ _ (by decide) (by decide) (by decide) Q5.out)
      have B7 := hid hB7
      clear hG7 hK7 hB7 KD p0 p1 p2 p3 p4 O5 G5 Q5 B5 P5
      have LN : Hid (GL.length ≤ 1048576) := hid (by rw [HL.out]; omega)
      go_wp2_with ((at_builtin; refine append_go w.heap.size w7 rfl (.tmp 32) (.tmp 36) rfl (.slice av i c) GL g1 g2 g3 rfl O7.out B7.out.size rfl LN.out ?_; intro v9 w9 hO9 hg9; obtain ⟨a9, c9, hv9, _⟩ := OwnGo.gous hO9; have hl9 : (GL ++ [(⟨g1, g2, g3⟩ : Gou)]).length = i + 1 := (by rw [List.length_append, HL.out]; rfl); rw [hl9] at hv9; clear hl9; subst hv9; have G9 : Hid (GpAt w9 w.heap.size gb N GS pb) := (by obtain ⟨l1, l2, l3, g⟩ := G7.out; exact ⟨l1, l2, l3, g.rows fun b t cs hr ht => O7.out.far hg9 hr (by rcases ht with rfl | rfl | rfl | rfl <;> decide)⟩); have Q9 := hid (O7.out.far hg9 Q7.out (by decide)); have B9 := hid (below_ownO B7.out O7.out (Nat.le_refl _) hg9); have O9 := hid hO9; clear hO9 hg9))
      go_wp2
      go_roundw
      case rel => exact ⟨i + 1, c9, a9, hlt, by go_num, rfl, by rw [HN.out]; exact O9.out, by rw [HN.out]; exact G9.out, Q9.out, B9.out⟩
      case measure => simp [intOf]; omega
    · have hlt' : ¬ (i : Int) < (n : Int) := by omega
      have ei : i = n := by omega
      obtain ⟨ST, hST⟩ : ∃ S, S = (gR N o i).1 := ⟨_, rfl⟩
      obtain ⟨GL, hGL⟩ : ∃ S, S = (gR N o i).2 := ⟨_, rfl⟩
      rw [← hST] at GG
      rw [← hGL] at OO
      have HE : Hid (gR N o n = (ST, GL)) := hid (by rw [← ei, hST, hGL])
      clear ei hST hGL
      have KM := hid (iMem w.heap.size gb N N1 N9 ST pb wr BB.out.size GG.out)
      go_wp2_with fail
      refine KM.out.mono ?_
      rintro e w8 ⟨g, cc, la8, lc8, mb8, rfl, hM8, hk8, hb8⟩
      have O8 := hid (OO.out.kq hk8)
      have Q8 := hid (hk8.row _ _ _ (by decide) (by decide) (by decide) QQ.out)
      have B8 := hid (BB.out.trans hb8)
      have M8 := hid hM8
      clear hM8 hk8 hb8 KM GG OO QQ BB
      have x4 : Hid (w.heap.size ≤ X4) := by rw [HX4.out]; exact Nat.le_refl _
      go_wp2_with (refine wpList_store_row rfl 31 (.tmp 4) (.tmp 42) rfl X4 #[.slice av i c, .slice (some ⟨g, 0, none⟩) N cc] rfl rfl _ _ Q8.out (by kernel_rfl) rfl (by simp [Value.oneCell']) ?_)
      try simp only [Exit.inBlock, Exit.then]
      refine bodyPost_ret (v := .agg #[.slice av i c, .slice (some ⟨g, 0, none⟩) N cc]) ?_ rfl ⟨.inr ⟨hok.out, g, cc, .slice av i c, la8, lc8, mb8, rfl, ?_, ?_⟩, below_setRow B8.out _ _ x4.out⟩
      · exact results_cell_row Try.results6 _ _ X4 _ _ _ _ rfl (Q8.out.setRow _) Try.underlying31 rfl (by kernel_rfl)
      · rw [Int.toNat_natCast, HE.out]
        exact O8.out.setRowO Q8.out (by decide) _
      · rw [Int.toNat_natCast, HE.out]
        have M := M8.out
        have keep : ∀ {b t cs}, RowAt w8 b t cs → t ≠ 31 → RowAt (w8.setRow X4 #[.slice av i c, .slice (some ⟨g, 0, none⟩) N cc]) b t cs := fun hr ht => hr.otherRow _ _ (row_apart hr Q8.out ht)
        refine ⟨M.lo, M.cap, ?_, fun k hk => (M.log k hk).keep fun b cs _ hr => keep hr (by decide), fun k hk => ⟨keep (M.mat k hk).1 (by decide), (M.mat k hk).2⟩, M.nem, M.nel⟩
        obtain ⟨f, ⟨cs, r1, r2, r3⟩, r4⟩ := M.row
        exact ⟨f, ⟨cs, keep r1 (by decide), r2, r3⟩, r4⟩
end Go.Proofs.Ytmhkelfmciepaaa
