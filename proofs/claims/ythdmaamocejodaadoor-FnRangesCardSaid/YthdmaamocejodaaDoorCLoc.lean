import Derived.Test.YthdmaamocejodaaDoorCGlob
import Derived.Deep.AppendLies
import Derived.Deep.CutRange
namespace Go.Proofs.YthdmaamocejodaaDoor
open Go.RowKit
/-- One number, in a box of its own, is appended to a row that the call owns, as a step of a region. -/
theorem step_append_box {P : Program} (base : Nat) (w : World) {ops : Array Oper} {o : Oper} {a : Act} {K : Act → World → Prop} {Q : Exit → Act → World → Prop} {E : Prop} (hgd : o.guard = none) (s x : Operand) (t : TypeId)
    (ho : o.op = .call { callee := .builtin .append, args := #[s, x], argTypes := #[t, t] })
    (e : TypeId) (k : IntKind) (bt : Nat) (ht : P.underlying t = some (.slice e)) (hinfo : (P.info? e).map (fun i => (i.zero, i.size, i.bytes)) = some (some (.int k 0), 1, bt)) (hbt : bt ≤ 8)
    (v : Value) (xs : List Int) (y : Int) (hs : a.eval s = v) (hown : OwnNums w base e k v xs) (hsz : base ≤ w.heap.size)
    (b : Nat) (hbox : RowAt w b e #[.int k y]) (hx : a.eval x = .slice (some ⟨b, 0, none⟩) 1 1) (hlen : xs.length + 1 ≤ 17592186044414)
    (h : ∀ g cap w', OwnNums w' base e k (.slice (some ⟨g, 0, none⟩) (xs.length + 1) cap) (xs ++ [y]) → w.grownBy w' v.ownBlock → K (a.put o.dst (.slice (some ⟨g, 0, none⟩) (xs.length + 1) cap)) w') :
    if Region.wanted o (yielded ops a.tmps) = true then Oper.wp P o a w K Q else E := by
  obtain ⟨i0, hi, hz0, hz1, hz2⟩ := info_parts hinfo
  refine step_append_lies _ hgd s x t ho base e i0 (.int k 0) 1 bt ht hi hz0 hz1 hz2 rfl (by decide) v xs.length _ hs hown ⟨b, 0, none⟩ 1 1 [.int k y] hx rfl ?_ ?_ (by decide) ?_ ?_ hsz w.heap.size rfl ?_
  · have := World.news_of_block (show w.heap[b]? = some (.cells #[.int k y] e (0, 0)) from hbox); simpa using this
  · intro u hu; simp at hu; subst hu; rfl
  · unfold maxLen; omega
  · exact Nat.le_trans (Nat.mul_le_mul_left _ hbt) (by omega)
  · intro g cap w' h1 h2 h3 h4
    exact h g cap w' (by simpa [OwnNums] using h1) h2

theorem own_slice {w : World} {base : Nat} {e : TypeId} {k : IntKind} {v : Value} {xs : List Int} (h : OwnNums w base e k v xs) : ∃ a n c, v = .slice a n c := by
  rcases h.2 with ⟨rfl, _⟩ | ⟨g, cap, cur, rfl, _⟩
  · exact ⟨_, _, _, rfl⟩
  · exact ⟨_, _, _, rfl⟩
def lzF (q : Nat) : Value := if q = 0 then .int .i64 0 else if q = 33 then .slice none 0 0 else .int .u8 0
def lz : Array Value := ((List.range 34).map lzF).toArray
theorem Tryd.infoL : (Tryd.prog.info? 102).map (fun i => (i.zero, i.size, i.bytes)) = some (some (.agg lz), 34, 64) := by kernel_rfl
theorem mkL (w : World) (n : Nat) (hn : n ≤ 64) : (Instr.makeSlice 99 (.int .i64 n) (.int .i64 n)).run Tryd.prog w = .ok (.slice (some ⟨w.heap.size, 0, none⟩) n n) (w.alloc (.cells (madeCells lz (n * 34)) 102)) := by
  obtain ⟨i0, hi, hz0, hz1, hz2⟩ := info_parts Tryd.infoL
  have := run_make (P := Tryd.prog) w 99 102 i0 _ Tryd.underlying99 hi hz0 .i64 .i64 n n (by omega) (Int.le_refl _) (by rw [hz2]; omega) (by omega)
  rw [this, hz1]
  simp only [Int.toNat_natCast, Value.cells]
/-- a local parity's factor -/
def lfac (K G g q : Nat) : Nat := if q < K ∧ q % G = g then 1 else 0
/-- the cells of the local parities; their members lie where mem says -/
def lpF (K M G : Nat) (mem : Nat → Value) (p : Nat) : Value := if p % 34 = 0 then .int .i64 ((K + M + p / 34 : Nat) : Int) else if p % 34 = 33 then mem (p / 34) else .int .u8 ((lfac K G (p / 34) (p % 34 - 1) : Nat) : Int)
/-- g of them are made -/
def lpI (K M G : Nat) (mem : Nat → Value) (g : Nat) (p : Nat) : Value := if p / 34 < g then lpF K M G mem p else lzF (p % 34)
/-- one is under way, up to d -/
def lpS (K M G : Nat) (mem : Nat → Value) (g d : Nat) (v : Value) (p : Nat) : Value := if p / 34 = g then (if p % 34 = 0 then .int .i64 ((K + M + g : Nat) : Int) else if p % 34 = 33 then v else .int .u8 (((if p % 34 - 1 < d then lfac K G g (p % 34 - 1) else 0) : Nat) : Int)) else lpI K M G mem g p
theorem same_mod {G d q : Nat} (h : d % G = q % G) (h1 : d ≤ q) (h2 : q < d + G) : q = d := by
  have e := Nat.sub_mod_eq_zero_of_mod_eq h.symm
  rw [Nat.mod_eq_of_lt (by omega)] at e
  omega
theorem lpS_start (K M G : Nat) (mem : Nat → Value) (g : Nat) (hg : g < G) (p : Nat) : putF (lpI K M G mem g) (g * 34) (.int .i64 ((K + M + g : Nat) : Int)) p = lpS K M G mem g g (.slice none 0 0) p := by
  unfold putF lpS
  by_cases h1 : p = g * 34
  · rw [if_pos h1, if_pos (show p / 34 = g by omega), if_pos (show p % 34 = 0 by omega)]
  · rw [if_neg h1]
    by_cases h2 : p / 34 = g
    · rw [if_pos h2, if_neg (show ¬ p % 34 = 0 by omega)]
      unfold lpI lzF
      rw [if_neg (show ¬ p / 34 < g by omega), if_neg (show ¬ p % 34 = 0 by omega)]
      by_cases h3 : p % 34 = 33
      · rw [if_pos h3, if_pos h3]
      · rw [if_neg h3, if_neg h3]
        by_cases h4 : p % 34 - 1 < g
        · rw [if_pos h4]
          unfold lfac
          rw [if_neg (by rw [Nat.mod_eq_of_lt (show p % 34 - 1 < G by omega)]; omega)]; rfl
        · rw [if_neg h4]; rfl
    · rw [if_neg h2]
theorem lpS_step (K M G : Nat) (mem : Nat → Value) (g d : Nat) (v v' : Value) (hd : d < K) (hK : K ≤ 32) (hG : 0 < G) (hm : d % G = g) (p : Nat) :
    putF (putF (lpS K M G mem g d v) (g * 34 + 1 + d) (.int .u8 1)) (g * 34 + 33) v' p = lpS K M G mem g (d + G) v' p := by
  unfold putF lpS
  by_cases h1 : p = g * 34 + 33
  · rw [if_pos h1, if_pos (show p / 34 = g by omega), if_neg (show ¬ p % 34 = 0 by omega), if_pos (show p % 34 = 33 by omega)]
  · rw [if_neg h1]
    by_cases h2 : p = g * 34 + 1 + d
    · have e1 : p % 34 - 1 = d := by omega
      rw [if_pos h2, if_pos (show p / 34 = g by omega), if_neg (show ¬ p % 34 = 0 by omega), if_neg (show ¬ p % 34 = 33 by omega), e1, if_pos (show d < d + G by omega)]
      unfold lfac
      rw [if_pos ⟨hd, hm⟩]; rfl
    · rw [if_neg h2]
      by_cases h3 : p / 34 = g
      · rw [if_pos h3, if_pos h3]
        by_cases h4 : p % 34 = 0
        · rw [if_pos h4, if_pos h4]
        · rw [if_neg h4, if_neg h4, if_neg (show ¬ p % 34 = 33 by omega), if_neg (show ¬ p % 34 = 33 by omega)]
          by_cases h5 : p % 34 - 1 < d
          · rw [if_pos h5, if_pos (show p % 34 - 1 < d + G by omega)]
          · rw [if_neg h5]
            by_cases h6 : p % 34 - 1 < d + G
            · rw [if_pos h6]
              unfold lfac
              rw [if_neg (fun h => by
                have := same_mod (G := G) (d := d) (q := p % 34 - 1) (by rw [hm, h.2]) (by omega) h6
                omega)]
            · rw [if_neg h6]
      · rw [if_neg h3, if_neg h3]
theorem lpS_end (K M G : Nat) (mem : Nat → Value) (g d : Nat) (v v' : Value) (hd : K ≤ d) (p : Nat) :
    putF (lpS K M G mem g d v) (g * 34 + 33) v' p = lpI K M G (fun i => if i = g then v' else mem i) (g + 1) p := by
  unfold putF lpS lpI lpF
  by_cases h1 : p = g * 34 + 33
  · rw [if_pos h1, if_pos (show p / 34 < g + 1 by omega), if_neg (show ¬ p % 34 = 0 by omega), if_pos (show p % 34 = 33 by omega)]
    show v' = if p / 34 = g then v' else mem (p / 34)
    rw [if_pos (show p / 34 = g by omega)]
  · rw [if_neg h1]
    by_cases h3 : p / 34 = g
    · rw [if_pos h3, if_pos (show p / 34 < g + 1 by omega)]
      by_cases h4 : p % 34 = 0
      · rw [if_pos h4, if_pos h4, h3]
      · rw [if_neg h4, if_neg h4, if_neg (show ¬ p % 34 = 33 by omega), if_neg (show ¬ p % 34 = 33 by omega), h3]
        by_cases h5 : p % 34 - 1 < d
        · rw [if_pos h5]
        · rw [if_neg h5]; unfold lfac; rw [if_neg (by omega)]
    · rw [if_neg h3]
      by_cases h5 : p / 34 < g
      · rw [if_pos h5, if_pos (show p / 34 < g + 1 by omega)]
        show _ = (if p % 34 = 0 then _ else if p % 34 = 33 then (if p / 34 = g then v' else mem (p / 34)) else _)
        rw [if_neg h3]
      · rw [if_neg h5, if_neg (show ¬ p / 34 < g + 1 by omega)]
theorem lpS_mem (K M G : Nat) (mem : Nat → Value) (g d : Nat) (v : Value) : lpS K M G mem g d v (g * 34 + 33) = v := by
  unfold lpS; rw [if_pos (show (g * 34 + 33) / 34 = g by omega), if_neg (show ¬ (g * 34 + 33) % 34 = 0 by omega), if_pos (show (g * 34 + 33) % 34 = 33 by omega)]
theorem lpS_shard (K M G : Nat) (mem : Nat → Value) (g d : Nat) (v : Value) : lpS K M G mem g d v (g * 34) = .int .i64 ((K + M + g : Nat) : Int) := by
  unfold lpS; rw [if_pos (show (g * 34) / 34 = g by omega), if_pos (show (g * 34) % 34 = 0 by omega)]
set_option maxRecDepth 20000 in
set_option maxHeartbeats 4000000 in
theorem iloc (K M G : Nat) (hK1 : 1 ≤ K) (hK : K ≤ 32) (hM : M ≤ 16) (hG : G ≤ K) (w : World) :
    Calls Tryd.prog 39 #[cdv K M G] w fun e w' => ∃ lb, e = .returned (.slice (some ⟨lb, 0, none⟩) G G) ∧ w.heap.size ≤ lb ∧ (∃ mem, FRow w' lb 102 (G * 34) (lpF K M G mem) ∧ ∀ i, (mem i).oneCell' = true) ∧ Below w.heap.size w w' := by
  have hmk := fun w => mkL w G (by omega)
  go_enter Tryd.func39, Tryd.ntmps39
  go_wp2_with fail
  obtain ⟨W0, hW0⟩ : ∃ W0, W0 = (w.alloc (.cells (cda K M G) 24)).alloc (.cells (madeCells lz (G * 34)) 102) := ⟨_, rfl⟩
  have F0 : Hid (FRow W0 (w.heap.size + 1) 102 (G * 34) (lpI K M G (fun _ => .slice none 0 0) 0)) := by
    have h := made_row (w.alloc (.cells (cda K M G) 24)) 102 lzF G 34 (by decide)
    rw [size_al] at h
    rw [hW0]
    exact h.congr fun p _ => by unfold lpI; rw [if_neg (by omega)]
  have C0 : Hid (RowAt W0 w.heap.size 24 (cda K M G)) := by rw [hW0]; exact (RowAt.new w _ _).alloc _
  have B0 : Hid (Below w.heap.size w W0) := by rw [hW0]; exact bal (bal (Below.refl _ _) _ (Nat.le_refl _)) _ (Nat.le_refl _)
  have S0 : Hid (w.heap.size + 2 ≤ W0.heap.size) := by show _ ≤ _; rw [hW0, size_al, size_al]; omega
  rw [← hW0]
  clear hW0 hmk
  go_loopw [12] (fun y wr => ∃ (g : Nat) (mem : Nat → Value), g ≤ G ∧ y = .int .i64 g ∧ FRow wr (w.heap.size + 1) 102 (G * 34) (lpI K M G mem g) ∧ (∀ i, (mem i).oneCell' = true) ∧ RowAt wr w.heap.size 24 (cda K M G) ∧ Below w.heap.size w wr ∧ w.heap.size + 2 ≤ wr.heap.size) (fun y _ => G - (intOf y).toNat)
  case atStart => exact ⟨0, _, Nat.zero_le _, rfl, F0.out, fun _ => rfl, C0.out, B0.out, S0.out⟩
  case round =>
    obtain ⟨g, mem, hg, rfl, hF, hmem, hC, hB, hs⟩ := hrel
    have HF := hid hF
    have HC := hid hC
    have HB := hid hB
    have HM := hid hmem
    clear hF hC hB hmem F0 C0 B0 S0
    by_cases hlt : g < G
    · have hlt' : (g : Int) < (G : Int) := by omega
      have i0 : (0 : Int) ≤ (g : Int) := by omega
      have c0 : wr.cell? ⟨w.heap.size, 0, none⟩ = some (.int .i64 K) := HC.out.cell 0
      have c1 : wr.cell? ⟨w.heap.size, 1, none⟩ = some (.int .i64 M) := HC.out.cell 1
      have k1 : wr.cell? ⟨w.heap.size + 1, g * 34, none⟩ = some (lpI K M G mem g (g * 34)) := HF.out.cell (by omega)
      have f1 := HF.out.free (g * 34)
      obtain ⟨x1, hx1⟩ : ∃ x, x = lpI K M G mem g (g * 34) := ⟨_, rfl⟩
      rw [← hx1] at k1
      clear hx1
      go_wp2_with fail
      obtain ⟨W1, hW1⟩ : ∃ W1, W1 = wr.setCell ⟨w.heap.size + 1, g * 34, none⟩ (.int .i64 ((K : Int) + (M : Int) + (g : Int))) := ⟨_, rfl⟩
      have F1 : Hid (FRow W1 (w.heap.size + 1) 102 (G * 34) (lpS K M G mem g g (.slice none 0 0))) := by
        rw [hW1]
        exact (HF.out.set _ _).congr fun p _ => lpS_start K M G mem g hlt p
      have C1 : Hid (RowAt W1 w.heap.size 24 (cda K M G)) := by rw [hW1]; exact HC.out.other _ _ (by dsimp only; omega)
      have B1 : Hid (Below w.heap.size w W1) := by rw [hW1]; exact HB.out.setCell (by dsimp only; omega) _
      have s1 : w.heap.size + 2 ≤ W1.heap.size := by rw [hW1]; simpa [World.setCell] using hs
      rw [← hW1]
      clear hW1 k1 f1 c0 c1 HF HC HB hs
      go_loopw [6] (fun y wr => ∃ (d : Nat) (v : Value) (xs : List Int), d < K + G ∧ y = .int .i64 d ∧ d % G = g ∧ FRow wr (w.heap.size + 1) 102 (G * 34) (lpS K M G mem g d v) ∧ OwnNums wr (w.heap.size + 2) 2 .i64 v xs ∧ xs.length ≤ d ∧ RowAt wr w.heap.size 24 (cda K M G) ∧ Below w.heap.size w wr ∧ w.heap.size + 2 ≤ wr.heap.size) (fun y _ => K + G - (intOf y).toNat)
      case atStart => exact ⟨g, _, [], by omega, rfl, Nat.mod_eq_of_lt hlt, F1.out, World.ownsRow_nil _ _ _ _, Nat.zero_le _, C1.out, B1.out, s1⟩
      case round =>
        obtain ⟨d, v, xs, hdb, rfl, hdm, hF, hO, hxl, hC, hB, hs⟩ := hrel
        have HF := hid hF
        have HC := hid hC
        have HB := hid hB
        have HO := hid hO
        have HD := hid hdm
        clear hF hC hB hO hdm F1 C1 B1 s1
        have c0 : wr.cell? ⟨w.heap.size, 0, none⟩ = some (.int .i64 K) := HC.out.cell 0
        have c2 : wr.cell? ⟨w.heap.size, 2, none⟩ = some (.int .i64 G) := HC.out.cell 2
        by_cases hdK : d < K
        · have hdK' : (d : Int) < (K : Int) := by omega
          have j0 : (0 : Int) ≤ (d : Int) := by omega
          have j1 : (d : Int) < 32 := by omega
          have k1 : wr.cell? ⟨w.heap.size + 1, g * 34 + 1 + d, none⟩ = some (lpS K M G mem g d v (g * 34 + 1 + d)) := HF.out.cell (by omega)
          have f1 := HF.out.free (g * 34 + 1 + d)
          obtain ⟨x1, hx1⟩ : ∃ x, x = lpS K M G mem g d v (g * 34 + 1 + d) := ⟨_, rfl⟩
          rw [← hx1] at k1
          clear hx1
          go_upto_region 11 with fail
          obtain ⟨W2, hW2⟩ : ∃ W2, W2 = wr.setCell ⟨w.heap.size + 1, g * 34 + 1 + d, none⟩ (.int .u8 1) := ⟨_, rfl⟩
          have F2 : Hid (FRow W2 (w.heap.size + 1) 102 (G * 34) (putF (lpS K M G mem g d v) (g * 34 + 1 + d) (.int .u8 1))) := by rw [hW2]; exact HF.out.set _ _
          have km : W2.cell? ⟨w.heap.size + 1, g * 34 + 33, none⟩ = some v := by
            rw [F2.out.cell (p := g * 34 + 33) (by omega)]
            unfold putF
            rw [if_neg (by omega), lpS_mem]
          have O2 : Hid (OwnNums W2 (w.heap.size + 2) 2 .i64 v xs) := by rw [hW2]; exact HO.out.kept grown_set (by omega)
          have C2 : Hid (RowAt W2 w.heap.size 24 (cda K M G)) := by rw [hW2]; exact HC.out.other _ _ (by dsimp only; omega)
          have B2 : Hid (Below w.heap.size w W2) := by rw [hW2]; exact HB.out.setCell (by dsimp only; omega) _
          have Z2 : Hid (w.heap.size + 2 ≤ W2.heap.size) := by show _ ≤ _; rw [hW2]; simpa [World.setCell] using hs
          have Y2 : Hid (xs.length ≤ 17592186044414) := by show _ ≤ _; omega
          have NE : Hid (some (w.heap.size + 1) ≠ v.ownBlock) := O2.out.ne (by omega)
          have NC : Hid (some w.heap.size ≠ v.ownBlock) := O2.out.ne (by omega)
          have LL : Hid (g * 34 + 33 < G * 34) := by show _ < _; omega
          rw [← hW2]
          clear hW2 k1 f1 c0 c2 HF HO HC HB
          go_wp2_with (refine append_num2 (w.heap.size + 2) W2 (by rfl) (.tmp 48) (.tmp 50) 64 (by rfl) 2 .i64 8 Tryd.underlying64 Tryd.info64 (by decide) _ xs (d : Int) (by rfl) O2.out Z2.out (by rfl) Y2.out ?_; intro v' w3 hO3 hg3; obtain ⟨a3, n3, c3, rfl⟩ := own_slice hO3; have F3 := F2.out.far hg3 NE.out; have C3 := rowFar C2.out hg3 NC.out; have y1 := F3.cell LL.out; have y2 := F3.free (g * 34 + 33); have y3 : w3.cell? ⟨w.heap.size, 2, none⟩ = some (.int .i64 G) := C3.cell 2; have hl3 := C3.lt)
          have F4 : Hid (FRow (w3.setCell ⟨w.heap.size + 1, g * 34 + 33, none⟩ (.slice a3 n3 c3)) (w.heap.size + 1) 102 (G * 34) (lpS K M G mem g (d + G) (.slice a3 n3 c3))) := (F3.set _ _).congr fun p _ => lpS_step K M G mem g d v (.slice a3 n3 c3) hdK hK (by omega) HD.out p
          have C4 : Hid (RowAt (w3.setCell ⟨w.heap.size + 1, g * 34 + 33, none⟩ (.slice a3 n3 c3)) w.heap.size 24 (cda K M G)) := C3.other _ _ (by dsimp only; omega)
          have B4 : Hid (Below w.heap.size w (w3.setCell ⟨w.heap.size + 1, g * 34 + 33, none⟩ (.slice a3 n3 c3))) := (B2.out.grown hg3 (by have := B2.out.size; omega) (fun b hb => by have := (World.ownsRow.lt O2.out b hb).1; omega)).setCell (by dsimp only; omega) _
          have O4 : Hid (OwnNums (w3.setCell ⟨w.heap.size + 1, g * 34 + 33, none⟩ (.slice a3 n3 c3)) (w.heap.size + 2) 2 .i64 (.slice a3 n3 c3) (xs ++ [(d : Int)])) := hO3.kept grown_set (by omega)
          have Z4 : Hid (w.heap.size + 2 ≤ (w3.setCell ⟨w.heap.size + 1, g * 34 + 33, none⟩ (.slice a3 n3 c3)).heap.size) := by show _ ≤ _; have h8 := Z2.out; have h9 := hg3.size; simp [World.setCell]; omega
          have D4 : Hid ((d + G) % G = g) := by show _ = _; rw [Nat.add_mod_right]; exact HD.out
          go_roundw
          case rel => exact ⟨d + G, .slice a3 n3 c3, _, by omega, by go_num, D4.out, F4.out, O4.out, by rw [List.length_append]; simp; omega, C4.out, B4.out, Z4.out⟩
          case measure => simp [intOf]; omega
        · have hdK' : ¬ (d : Int) < (K : Int) := by omega
          have LL : Hid (g * 34 + 33 < G * 34) := by show _ < _; omega
          obtain ⟨S, hS⟩ : ∃ S : Nat, S = K + M + g := ⟨_, rfl⟩
          have kM : wr.cell? ⟨w.heap.size + 1, g * 34 + 33, none⟩ = some v := by rw [HF.out.cell LL.out, lpS_mem]
          have kS : wr.cell? ⟨w.heap.size + 1, g * 34, none⟩ = some (.int .i64 (S : Int)) := by rw [HF.out.cell (by omega), lpS_shard, hS]
          have F6 := hid (HF.out.alloc (.cells #[.int .i64 (S : Int)] 2)).drew
          have O6 : Hid (OwnNums (wr.alloc (.cells #[.int .i64 (S : Int)] 2)).drew (w.heap.size + 2) 2 .i64 v xs) := (HO.out.alloc _).drew
          have C6 : Hid (RowAt (wr.alloc (.cells #[.int .i64 (S : Int)] 2)).drew w.heap.size 24 (cda K M G)) := (HC.out.alloc _).drew
          have B6 : Hid (Below w.heap.size w (wr.alloc (.cells #[.int .i64 (S : Int)] 2)).drew) := (bal HB.out _ (Nat.le_refl _)).drew
          have Z6 : Hid (w.heap.size + 2 ≤ (wr.alloc (.cells #[.int .i64 (S : Int)] 2)).drew.heap.size) := by show _ ≤ (World.alloc _ _).heap.size; rw [size_al]; omega
          have X6 : Hid (RowAt (wr.alloc (.cells #[.int .i64 (S : Int)] 2)).drew wr.heap.size 2 #[.int .i64 (S : Int)]) := (RowAt.new wr _ _).drew
          have kM6 : (wr.alloc (.cells #[.int .i64 (S : Int)] 2)).drew.cell? ⟨w.heap.size + 1, g * 34 + 33, none⟩ = some v := by rw [F6.out.cell LL.out, lpS_mem]
          have Y6 : Hid (xs.length + 1 ≤ 17592186044414) := by show _ ≤ _; omega
          have NE : Hid (some (w.heap.size + 1) ≠ v.ownBlock) := O6.out.ne (by omega)
          have NC : Hid (some w.heap.size ≠ v.ownBlock) := O6.out.ne (by omega)
          clear hS
          go_wp2_with fail
          go_region_law (refine step_append_box (w.heap.size + 2) _ (by rfl) _ _ 64 (by rfl) 2 .i64 8 Tryd.underlying64 Tryd.info64 (by decide) _ xs (S : Int) (by rfl) O6.out Z6.out wr.heap.size X6.out (by rfl) Y6.out ?_; intro g7 c7 w7 hO7 hg7; have F7 := F6.out.far hg7 NE.out; have C7 := rowFar C6.out hg7 NC.out; have y1 := F7.cell LL.out; have y2 := F7.free (g * 34 + 33))
          all_goals
            have F8 : Hid (FRow (w7.setCell ⟨w.heap.size + 1, g * 34 + 33, none⟩ (.slice (some ⟨g7, 0, none⟩) (xs.length + 1) c7)) (w.heap.size + 1) 102 (G * 34) (lpI K M G (fun i => if i = g then (.slice (some ⟨g7, 0, none⟩) (xs.length + 1) c7) else mem i) (g + 1))) := (F7.set _ _).congr fun p _ => lpS_end K M G mem g d v _ (by omega) p
            have C8 : Hid (RowAt (w7.setCell ⟨w.heap.size + 1, g * 34 + 33, none⟩ (.slice (some ⟨g7, 0, none⟩) (xs.length + 1) c7)) w.heap.size 24 (cda K M G)) := C7.other _ _ (by dsimp only; omega)
            have B8 : Hid (Below w.heap.size w (w7.setCell ⟨w.heap.size + 1, g * 34 + 33, none⟩ (.slice (some ⟨g7, 0, none⟩) (xs.length + 1) c7))) := (B6.out.grown hg7 (by have := Z6.out; omega) (fun b hb => by have := (World.ownsRow.lt O6.out b hb).1; omega)).setCell (by dsimp only; omega) _
            have Z8 : Hid (w.heap.size + 2 ≤ (w7.setCell ⟨w.heap.size + 1, g * 34 + 33, none⟩ (.slice (some ⟨g7, 0, none⟩) (xs.length + 1) c7)).heap.size) := by show _ ≤ _; have h8 := Z6.out; have h9 := hg7.size; simp [World.setCell]; omega
            have M8 : Hid (∀ i, ((fun i => if i = g then (.slice (some ⟨g7, 0, none⟩) (xs.length + 1) c7) else mem i : Nat → Value) i).oneCell' = true) := fun i => by
              show (if i = g then _ else mem i : Value).oneCell' = true
              split
              · rfl
              · exact HM.out i
            clear F7 C7 hO7 hg7 y1 y2 F6 O6 C6 B6 Z6 X6 kM6 kM kS HF HO HC HB c0 c2
          all_goals go_wp2
          all_goals
            go_roundw
            case rel => exact ⟨g + 1, _, by omega, by go_num, F8.out, M8.out, C8.out, B8.out, Z8.out⟩
            case measure => simp [intOf]; omega
    · have hge : g = G := by omega
      have FE : Hid (FRow wr (w.heap.size + 1) 102 (G * 34) (lpF K M G mem)) := HF.out.congr fun p hp => by unfold lpI; rw [if_pos (by omega)]
      have hlt' : ¬ (g : Int) < (G : Int) := by omega
      clear hge
      go_wp2
      go_ret
      exact ⟨w.heap.size + 1, rfl, by omega, ⟨mem, FE.out, HM.out⟩, HB.out⟩
end Go.Proofs.YthdmaamocejodaaDoor
