import Derived.Test.YtmhkelfmciepaaaGrI17
namespace Go.Proofs.Ytmhkelfmciepaaa
open Go.RowKit
set_option linter.unusedVariables false
/-! The program's members. -/
def mbC (la : Nat → Option Addr) (lc mb : Nat → Nat) (N : Nat) (s : Gst) (k : Nat) : List Value := [.int .i64 (s k).tm, .int .i64 (s k).vt, .bool (s k).ld, .int .i64 ((s k).cm : Int), .slice (la k) (s k).lg.length (lc k), .slice (some ⟨mb k, 0, none⟩) N N]
def mbL (la : Nat → Option Addr) (lc mb : Nat → Nat) (N : Nat) (s : Gst) : Nat → List Value
  | 0 => []
  | n + 1 => mbL la lc mb N s n ++ mbC la lc mb N s n
theorem mbL_len (la : Nat → Option Addr) (lc mb : Nat → Nat) (N : Nat) (s : Gst) : ∀ n, (mbL la lc mb N s n).length = n * 6
  | 0 => rfl
  | n + 1 => by rw [mbL, List.length_append, mbL_len la lc mb N s n]; show n * 6 + 6 = _; omega
theorem mbC_at (la : Nat → Option Addr) (lc mb : Nat → Nat) (N : Nat) (s : Gst) (k r : Nat) (hr : r < 6) : (mbC la lc mb N s k)[r]? = some (mbF la lc mb N s (k * 6 + r)) := by
  rcases (by omega : r = 0 ∨ r = 1 ∨ r = 2 ∨ r = 3 ∨ r = 4 ∨ r = 5) with rfl | rfl | rfl | rfl | rfl | rfl
  · rw [Nat.add_zero, mbF0]; rfl
  · rw [mbF1]; rfl
  · rw [mbF2]; rfl
  · rw [mbF3]; rfl
  · rw [mbF4]; rfl
  · rw [mbF5]; rfl
theorem mbL_at (la : Nat → Option Addr) (lc mb : Nat → Nat) (N : Nat) (s : Gst) : ∀ n p, p < n * 6 → (mbL la lc mb N s n)[p]? = some (mbF la lc mb N s p)
  | 0, p, h => by omega
  | n + 1, p, h => by
    rw [mbL]
    by_cases e : p < n * 6
    · rw [List.getElem?_append_left (by rw [mbL_len]; exact e)]
      exact mbL_at la lc mb N s n p e
    · rw [List.getElem?_append_right (by rw [mbL_len]; omega), mbL_len]
      have := mbC_at la lc mb N s n (p - n * 6) (by omega)
      rw [this, show n * 6 + (p - n * 6) = p by omega]
def OwnMb (w : World) (base : Nat) (v : Value) (la : Nat → Option Addr) (lc mb : Nat → Nat) (N : Nat) (s : Gst) (n : Nat) : Prop := w.ownsRow base 36 6 v n (mbL la lc mb N s n)
/-- the members of an answer -/
structure MmL (w : World) (B g c N : Nat) (s : Gst) (la : Nat → Option Addr) (lc mb : Nat → Nat) : Prop where
  lo : B ≤ g
  cap : N ≤ c
  row : ∃ f, FRow w g 36 (c * 6) f ∧ ∀ p, p < N * 6 → f p = mbF la lc mb N s p
  log : ∀ k, k < N → OwnGe w B (.slice (la k) (s k).lg.length (lc k)) (s k).lg
  mat : ∀ k, k < N → RowAt w (mb k) 2 (ints .i64 (s k).mt) ∧ B ≤ mb k ∧ (s k).mt.length = N
  nem : ∀ i j, i < N → j < N → i ≠ j → mb i ≠ mb j
  nel : ∀ i j, i < N → j < N → i ≠ j → (Value.slice (la i) (s i).lg.length (lc i)).ownBlock = none ∨ (Value.slice (la i) (s i).lg.length (lc i)).ownBlock ≠ (Value.slice (la j) (s j).lg.length (lc j)).ownBlock
theorem mkMb0 (w : World) (n : Nat) (hn : n ≤ 1048576) : (Instr.makeSlice 29 (.int .i64 0) (.int .i64 n)).run Try.prog w = .ok (.slice (some ⟨w.heap.size, 0, none⟩) 0 n) (w.alloc (.cells (madeCells #[.int .i64 0, .int .i64 0, .bool false, .int .i64 0, .slice none 0 0, .slice none 0 0] (n * 6)) 36)) := by
  obtain ⟨i0, hi, hz0, hz1, hz2⟩ := info_parts Try.infoMb
  have := run_make (P := Try.prog) w 29 36 i0 _ Try.underlying29 hi hz0 .i64 .i64 0 n (by omega) (by omega) (by rw [hz2]; omega) (by omega)
  rw [this, hz1]
  simp only [Int.toNat_natCast, Value.cells]
  rfl
theorem append_mb {ops : Array Oper} {rest : List Oper} {o : Oper} {a : Act} {Q : Exit → Act → World → Prop} (base : Nat) (wr : World) (hgd : o.guard = none) (s x : Operand)
    (ho : o.op = .call { callee := .builtin .append, args := #[s, x], argTypes := #[29, 29] })
    (v : Value) (n : Nat) (xs : List Value) (v0 v1 v2 v3 v4 v5 : Value) (hc : ∀ u ∈ [v0, v1, v2, v3, v4, v5], u.oneCell' = true) (hs : a.eval s = v) (hown : wr.ownsRow base 36 6 v n xs) (hsz : base ≤ wr.heap.size)
    (hx : a.eval x = .slice (some ⟨wr.heap.size, 0, none⟩) 1 1) (hlen : n ≤ 1048576)
    (h : ∀ v' w', w'.ownsRow base 36 6 v' (n + 1) (xs ++ [v0, v1, v2, v3, v4, v5]) → wr.grownBy w' v.ownBlock → wpList Try.prog ops Q rest (a.put o.dst v') w') :
    wpList Try.prog ops Q (o :: rest) a (wr.alloc (.cells #[v0, v1, v2, v3, v4, v5] 36)) := by
  obtain ⟨i0, hi, hz0, hz1, hz2⟩ := info_parts Try.infoMb
  refine wpList_append_own _ hgd s x 29 ho base 36 i0 _ 6 80 Try.underlying29 hi hz0 hz1 hz2 rfl (by decide) v n _ hs (World.ownsRow.alloc hown _) ⟨wr.heap.size, 0, none⟩ 1 1 [v0, v1, v2, v3, v4, v5] hx rfl ?_ hc ?_ ?_ ?_ ?_
  · intro j u hj
    have R := RowAt.new wr 36 #[v0, v1, v2, v3, v4, v5]
    match j, hj with
    | 0, hj => simp at hj; subst hj; exact R.cell 0
    | 1, hj => simp at hj; subst hj; exact R.cell 1
    | 2, hj => simp at hj; subst hj; exact R.cell 2
    | 3, hj => simp at hj; subst hj; exact R.cell 3
    | 4, hj => simp at hj; subst hj; exact R.cell 4
    | 5, hj => simp at hj; subst hj; exact R.cell 5
  · unfold maxLen; omega
  · omega
  · simp; omega
  · intro v' w' h1 h2 h3
    exact h v' w' h1 (grown_trans (World.grownBy_alloc wr _ _) h2)
def AnsMem (N B : Nat) (s : Gst) (w : World) (e : Ending) (w' : World) : Prop := ∃ g c la lc mb, e = .returned (.slice (some ⟨g, 0, none⟩) N c) ∧ MmL w' B g c N s la lc mb ∧ Kq w w' ∧ Below B w w'
/-- rows of other kinds stay where members are appended -/
theorem OwnMb.far {w w' : World} {B : Nat} {v : Value} {la : Nat → Option Addr} {lc mb : Nat → Nat} {N n : Nat} {s : Gst} (h : OwnMb w B v la lc mb N s n) (hg : w.grownBy w' v.ownBlock) {b : Nat} {t : TypeId} {cs : Array Value} (hr : RowAt w b t cs) (ht : t ≠ 36) : RowAt w' b t cs := by
  refine (hg.block b hr.lt fun e => ?_).trans hr
  rcases h.2 with ⟨h0, _⟩ | ⟨g, cap, cur, h0, _, hg2, _⟩
  · rw [h0] at e; cases e
  · rw [h0] at e
    have eb : b = g := Option.some.inj e
    subst eb
    exact row_apart hr (show RowAt w b 36 cur from hg2) ht rfl
set_option maxRecDepth 20000 in
set_option maxHeartbeats 4000000 in
theorem iMem (B gb N : Nat) (hN1 : 1 ≤ N) (hN : N ≤ 9) (s : Gst) (pb : Nat → Nat) (w : World) (hBw : B ≤ w.heap.size) (h : GpAt w B gb N s pb) :
    Calls Try.prog 18 #[.slice (some ⟨gb, 0, none⟩) N N] w fun e w' => AnsMem N B s w e w' := by
  obtain ⟨la, lc, mb, h⟩ := h
  obtain ⟨X, hX⟩ : ∃ X, X = w.heap.size := ⟨_, rfl⟩
  obtain ⟨W1, hW1⟩ : ∃ W, W = w.alloc (.cells (madeCells #[.int .i64 0, .int .i64 0, .bool false, .int .i64 0, .slice none 0 0, .slice none 0 0] (N * 6)) 36) := ⟨_, rfl⟩
  have hmk := mkMb0 w N (by omega)
  rw [← hX, ← hW1] at hmk
  have b1 : Below w.heap.size w W1 := by rw [hW1]; exact (Below.refl _ _).alloc (Nat.le_refl _) _
  have hXw : Hid (X = w.heap.size) := hX
  have hBX : Hid (B ≤ X) := by rw [hX]; exact hBw
  have O1 : Hid (OwnMb W1 X (.slice (some ⟨X, 0, none⟩) 0 N) la lc mb N s 0) := by
    refine ⟨rfl, .inr ⟨X, N, madeCells #[.int .i64 0, .int .i64 0, .bool false, .int .i64 0, .slice none 0 0, .slice none 0 0] (N * 6), rfl, Nat.le_refl _, ?_, Nat.zero_le _, by unfold maxLen; omega, by simp [madeCells], by simp [mbL]⟩⟩
    rw [hW1, hX]
    exact RowAt.new _ _ _
  have G1 := hid (h.below b1)
  have K1 : Hid (Kq w W1) := (Kq.refl w).below b1
  have B1 : Hid (Below B w W1) := b1.mono hBw
  have Z1 : Hid (B ≤ W1.heap.size) := Nat.le_trans hBw b1.size
  clear hW1 hX h b1 hBw
  go_enter Try.func18, Try.ntmps18
  go_wp2_with fail
  clear hmk
  go_loopw [3, 5, 11] (fun y3 y5 y11 wr => ∃ (i c : Nat) (a : Option Addr), i ≤ N ∧ y11 = .int .i64 (i : Int) ∧ y3 = .slice a i c ∧ OwnMb wr X (.slice a i c) la lc mb N s i ∧ GpL wr B gb N s pb la lc mb ∧ Kq w wr ∧ Below B w wr ∧ B ≤ wr.heap.size) (fun _ _ y11 _ => N - (intOf y11).toNat)
  case atStart => exact ⟨0, N, some ⟨X, 0, none⟩, Nat.zero_le _, rfl, rfl, O1.out, G1.out, K1.out, B1.out, Z1.out⟩
  case round =>
    obtain ⟨i, c, a, hi, rfl, rfl, hO, hG, hK, hB, hZ⟩ := hrel
    have OO := hid hO
    have GG := hid hG
    have KK := hid hK
    have BB := hid hB
    have ZZ := hid hZ
    clear hO hG hK hB hZ O1 G1 K1 B1 Z1
    by_cases hlt : i < N
    · have hlt' : (i : Int) < (N : Int) := by omega
      have i0 : (0 : Int) ≤ (i : Int) := by omega
      have mq : wr.cell? ⟨gb, i, none⟩ = some (.pointer (some ⟨pb i, 0, none⟩)) := (GG.out.all.cell i).trans (ptrs_at pb hlt)
      have r := GG.out.mem i hlt
      have m0 : wr.cell? ⟨pb i, 0, none⟩ = some (.int .i64 (s i).tm) := r.cell 0
      have m1 : wr.cell? ⟨pb i, 1, none⟩ = some (.int .i64 (s i).vt) := r.cell 1
      have m2 : wr.cell? ⟨pb i, 2, none⟩ = some (.bool (s i).ld) := r.cell 2
      have m3 : wr.cell? ⟨pb i, 3, none⟩ = some (.int .i64 ((s i).cm : Int)) := r.cell 3
      have m4 : wr.cell? ⟨pb i, 4, none⟩ = some (.slice (la i) (s i).lg.length (lc i)) := r.cell 4
      have m5 : wr.cell? ⟨pb i, 5, none⟩ = some (.slice (some ⟨mb i, 0, none⟩) N N) := r.cell 5
      clear r
      have HC : Hid (∀ u ∈ [Value.int .i64 (s i).tm, .int .i64 (s i).vt, .bool (s i).ld, .int .i64 ((s i).cm : Int), .slice (la i) (s i).lg.length (lc i), .slice (some ⟨mb i, 0, none⟩) N N], u.oneCell' = true) := hid (by
        intro u hu
        simp at hu
        rcases hu with rfl | rfl | rfl | rfl | rfl | rfl <;> rfl)
      go_wp2_with ((at_builtin; refine append_mb X wr rfl (.tmp 15) (.tmp 20) rfl (.slice a i c) i _ _ _ _ _ _ _ HC.out rfl OO.out (by rw [hXw.out]; exact KK.out.size) rfl (by omega) ?_; intro v9 w9 hO9 hg9; obtain ⟨g9, c9, hv9, _, _⟩ := World.ownsRow.form hO9 (Nat.succ_pos _); subst hv9; have G9 := hid (GG.out.rows fun b t cs hr ht => OO.out.far hg9 hr (by rcases ht with rfl | rfl | rfl | rfl <;> decide)); have O9 : Hid (OwnMb w9 X (.slice (some ⟨g9, 0, none⟩) (i + 1) c9) la lc mb N s (i + 1)) := hO9; have K9 : Hid (Kq w w9) := ⟨Nat.le_trans KK.out.size hg9.size, fun b t cs x1 x2 x3 hr => (hg9.block b (KK.out.row b t cs x1 x2 x3 hr).lt (fun e => Nat.lt_irrefl _ (Nat.lt_of_lt_of_le hr.lt (hXw.out ▸ (World.ownsRow.lt OO.out b e.symm).1)))).trans (KK.out.row b t cs x1 x2 x3 hr)⟩; have B9 := hid (BB.out.grown hg9 ZZ.out (fun x hx => Nat.le_trans hBX.out (World.ownsRow.lt OO.out x hx).1)); have Z9 : Hid (B ≤ w9.heap.size) := Nat.le_trans ZZ.out hg9.size; clear hO9 hg9))
      go_wp2
      go_roundw
      case rel => exact ⟨i + 1, c9, some ⟨g9, 0, none⟩, hlt, by go_num, rfl, O9.out, G9.out, K9.out, B9.out, Z9.out⟩
      case measure => simp [intOf]; omega
    · have hlt' : ¬ (i : Int) < (N : Int) := by omega
      have ei : i = N := by omega
      have HE := hid ei
      clear ei
      go_wp2
      go_ret
      have OF := OO.out
      rw [HE.out] at OF ⊢
      rcases OF.2 with ⟨_, h0⟩ | ⟨g, cap, cur, hv, hgB, hrow, hnc, hmx, hsz, htk⟩
      · omega
      refine ⟨g, cap, la, lc, mb, (by show Ending.returned (Value.slice a _ c) = _; rw [hv]), ⟨Nat.le_trans hBX.out hgB, hnc, ⟨fun p => cur.getD p (.int .i64 0), FRow.of (show RowAt wr g 36 cur from hrow) hsz fun p hp => ?_, fun p hp => ?_⟩, GG.out.log, GG.out.mat, GG.out.nem, GG.out.nel⟩, KK.out, BB.out⟩
      · rw [Array.getElem?_eq_getElem (by omega)]
        simp [Array.getD, show p < cur.size by omega]
      · have e1 : cur[p]? = some (mbF la lc mb N s p) := by
          have q := congrArg (·[p]?) htk
          simp only [List.getElem?_take] at q
          rw [if_pos hp, Array.getElem?_toList, mbL_at la lc mb N s N p hp] at q
          exact q
        have e2 : p < cur.size := by
          rcases Nat.lt_or_ge p cur.size with h | h
          · exact h
          · rw [Array.getElem?_eq_none h] at e1; cases e1
        rw [Array.getElem?_eq_getElem e2] at e1
        simp [Array.getD, e2]
        exact Option.some.inj e1
end Go.Proofs.Ytmhkelfmciepaaa
