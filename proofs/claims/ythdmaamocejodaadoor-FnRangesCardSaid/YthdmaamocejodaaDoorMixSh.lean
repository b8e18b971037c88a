import Derived.Test.YthdmaamocejodaaDoorMix
import Derived.Test.YthdmaamocejodaaDoorCGlob
namespace Go.Proofs.YthdmaamocejodaaDoor
open Go.RowKit
/-! mixShards: builders, pieces, texts. -/
theorem Tryd.infoB : (Tryd.prog.info? 83).map (fun i => (i.zero, i.size, i.bytes)) = some (some (.agg #[.pointer none, .slice none 0 0]), 2, 32) := by kernel_rfl
theorem mkB (w : World) (n : Nat) (hn : n ≤ 64) : (Instr.makeSlice 103 (.int .i64 n) (.int .i64 n)).run Tryd.prog w = .ok (.slice (some ⟨w.heap.size, 0, none⟩) n n) (w.alloc (.cells (madeCells #[.pointer none, .slice none 0 0] (n * 2)) 83)) := by
  obtain ⟨i0, hi, hz0, hz1, hz2⟩ := info_parts Tryd.infoB
  have := run_make (P := Tryd.prog) w 103 83 i0 _ Tryd.underlying103 hi hz0 .i64 .i64 n n (by omega) (Int.le_refl _) (by rw [hz2]; omega) (by omega)
  rw [this, hz1]
  simp only [Int.toNat_natCast, Value.cells]
theorem Tryd.infoS : (Tryd.prog.info? 9).map (fun i => (i.zero, i.size, i.bytes)) = some (some (.string ⟨#[]⟩), 1, 16) := by kernel_rfl
theorem mkS (w : World) (n : Nat) (hn : n ≤ 64) : (Instr.makeSlice 39 (.int .i64 n) (.int .i64 n)).run Tryd.prog w = .ok (.slice (some ⟨w.heap.size, 0, none⟩) n n) (w.alloc (.cells (madeCells #[.string ⟨#[]⟩] n) 9)) := by
  obtain ⟨i0, hi, hz0, hz1, hz2⟩ := info_parts Tryd.infoS
  have := run_make (P := Tryd.prog) w 39 9 i0 _ Tryd.underlying39 hi hz0 .i64 .i64 n n (by omega) (Int.le_refl _) (by rw [hz2]; omega) (by omega)
  rw [this, hz1]
  simp only [Int.toNat_natCast, Value.cells, Nat.mul_one]
noncomputable def pz : Array Value := match (Tryd.prog.info? 107).bind (·.zero) with | some (.agg c) => c | _ => #[]
theorem zvP (w : World) : (zeroValue 107).run Tryd.prog w = .ok (.agg pz) w := by kernel_rfl
def isZ8 : Value → Bool
  | .int .u8 (.ofNat 0) => true
  | _ => false
/-- n bytes of 0, asked one by one -/
def zeros8 : List Value → Nat → Bool
  | [], 0 => true
  | v :: r, n + 1 => match isZ8 v with | true => zeros8 r n | false => false
  | _, _ => false
theorem isZ8_eq {v : Value} (h : isZ8 v = true) : v = .int .u8 0 := by
  unfold isZ8 at h
  split at h
  · rfl
  · cases h
theorem zeros8_spec : ∀ (l : List Value) (n : Nat), zeros8 l n = true → l = List.replicate n (.int .u8 0)
  | [], 0, _ => rfl
  | [], n + 1, h => by simp [zeros8] at h
  | v :: r, 0, h => by simp [zeros8] at h
  | v :: r, n + 1, h => by
    simp only [zeros8] at h
    split at h
    · rename_i hv
      rw [isZ8_eq hv, zeros8_spec r n h]; rfl
    · cases h
def headI : List Value → Bool
  | .int .i64 (.ofNat 0) :: _ => true
  | _ => false
theorem head_spec (l : List Value) (n : Nat) (h1 : headI l = true) (h2 : zeros8 l.tail n = true) : l = .int .i64 0 :: List.replicate n (.int .u8 0) := by
  cases l with
  | nil => cases h1
  | cons v r =>
    have h3 : r = List.replicate n (.int .u8 0) := zeros8_spec r n h2
    rw [h3]
    unfold headI at h1
    split at h1
    · rename_i e; injection e with e1 e2; rw [e1]; rfl
    · cases h1
theorem row_of_list {w : World} {b : Nat} {t : TypeId} {z : Array Value} (n : Nat) (hl : z.toList = .int .i64 0 :: List.replicate n (.int .u8 0)) (h : RowAt w b t z) : FRow w b t (n + 1) (PF 0 fun _ _ => 0) := by
  refine FRow.of h ?_ (fun p hp => ?_)
  · have := congrArg List.length hl
    rw [Array.length_toList] at this
    rw [this]; simp
  · rw [← Array.getElem?_toList, hl]
    unfold PF
    by_cases h0 : p = 0
    · subst h0; rw [if_pos rfl]; rfl
    · rw [if_neg h0]
      obtain ⟨q, rfl⟩ : ∃ q, p = q + 1 := ⟨p - 1, by omega⟩
      rw [List.getElem?_cons_succ, List.getElem?_replicate, if_pos (by omega)]; rfl
theorem pz_zeros : zeros8 pz.toList.tail 32768 = true := by kernel_rfl
theorem pz_head : headI pz.toList = true := by kernel_rfl
theorem pzRow {w : World} {b : Nat} (h : RowAt w b 107 pz) : FRow w b 107 32769 (PF 0 fun _ _ => 0) := row_of_list 32768 (head_spec _ _ pz_head pz_zeros) h
/-- the builders' cells, the first i of them in use -/
def bI (bb : Nat) (vs : Nat → Value) (i p : Nat) : Value := if p / 2 < i then (if p % 2 = 0 then .pointer (some ⟨bb, p, none⟩) else vs (p / 2)) else (if p % 2 = 0 then .pointer none else .slice none 0 0)
theorem bI_grow (bb : Nat) (vs : Nat → Value) (i : Nat) (v : Value) (p : Nat) : putF (putF (bI bb vs i) (i * 2) (.pointer (some ⟨bb, i * 2, none⟩))) (i * 2 + 1) v p = bI bb (fun j => if j = i then v else vs j) (i + 1) p := by
  unfold putF bI
  by_cases h1 : p = i * 2 + 1
  · rw [if_pos h1, if_pos (show p / 2 < i + 1 by omega), if_neg (show ¬ p % 2 = 0 by omega)]
    show v = if p / 2 = i then v else vs (p / 2)
    rw [if_pos (by omega)]
  · rw [if_neg h1]
    by_cases h2 : p = i * 2
    · rw [if_pos h2, if_pos (show p / 2 < i + 1 by omega), if_pos (show p % 2 = 0 by omega), h2]
    · rw [if_neg h2]
      by_cases h3 : p / 2 < i
      · rw [if_pos h3, if_pos (show p / 2 < i + 1 by omega)]
        show (if p % 2 = 0 then _ else vs (p / 2)) = if p % 2 = 0 then _ else (if p / 2 = i then v else vs (p / 2))
        rw [if_neg (show ¬ p / 2 = i by omega)]
      · rw [if_neg h3, if_neg (show ¬ p / 2 < i + 1 by omega)]
theorem bI_put (bb : Nat) (vs : Nat → Value) (R i : Nat) (v : Value) (hi : i < R) (p : Nat) : putF (bI bb vs R) (i * 2 + 1) v p = bI bb (fun j => if j = i then v else vs j) R p := by
  unfold putF bI
  by_cases h1 : p = i * 2 + 1
  · rw [if_pos h1, if_pos (show p / 2 < R by omega), if_neg (show ¬ p % 2 = 0 by omega)]
    show v = if p / 2 = i then v else vs (p / 2)
    rw [if_pos (by omega)]
  · rw [if_neg h1]
    by_cases h3 : p / 2 < R
    · rw [if_pos h3, if_pos h3]
      by_cases h4 : p % 2 = 0
      · rw [if_pos h4, if_pos h4]
      · rw [if_neg h4, if_neg h4]
        show vs (p / 2) = if p / 2 = i then v else vs (p / 2)
        rw [if_neg (by omega)]
    · rw [if_neg h3, if_neg h3]
theorem madeB (w : World) (n : Nat) : FRow (w.alloc (.cells (madeCells #[.pointer none, .slice none 0 0] (n * 2)) 83)) w.heap.size 83 (n * 2) (bI w.heap.size (fun _ => undef) 0) := by
  have h := made_row w 83 (fun q => if q = 0 then .pointer none else .slice none 0 0) n 2 (by decide)
  refine FRow.congr (f := fun p => if p % 2 = 0 then .pointer none else .slice none 0 0) h fun p _ => ?_
  unfold bI; rw [if_neg (show ¬ p / 2 < 0 by omega)]
/-- the builders as they stand: i of them in use, none of their rows another's -/
structure BsSt (w wr : World) (bb R i : Nat) (vs : Nat → Value) (tx : Nat → List Int) : Prop where
  F : FRow wr bb 83 (R * 2) (bI bb vs i)
  O : ∀ j, j < i → OwnNums wr (bb + 1) 5 .u8 (vs j) (tx j)
  D : ∀ j k, j < i → k < i → j ≠ k → (vs j).ownBlock ≠ (vs k).ownBlock
  B : Below w.heap.size w wr
  o : w.heap.size ≤ bb
  s : bb + 1 ≤ wr.heap.size
theorem BsSt.grow {w wr w2 : World} {bb R i : Nat} {vs : Nat → Value} {g cap : Nat} (h : BsSt w wr bb R i vs (fun _ => [])) (hF : FRow w2 bb 83 (R * 2) (putF (putF (bI bb vs i) (i * 2) (.pointer (some ⟨bb, i * 2, none⟩))) (i * 2 + 1) (.slice (some ⟨g, 0, none⟩) 0 cap))) (hO : OwnNums w2 wr.heap.size 5 .u8 (.slice (some ⟨g, 0, none⟩) 0 cap) []) (hg : wr.grownBy w2 (some bb)) :
    BsSt w w2 bb R (i + 1) (fun j => if j = i then .slice (some ⟨g, 0, none⟩) 0 cap else vs j) (fun _ => []) := by
  have hs := h.s
  have ho := h.o
  have hgl : wr.heap.size ≤ g := (World.ownsRow.lt hO g rfl).1
  refine ⟨hF.congr fun p _ => bI_grow bb vs i _ p, fun j hj => ?_, fun j k hj hk hne => ?_, h.B.grown hg h.B.size (fun b hb => by have e2 : bb = b := Option.some.inj hb; omega), ho, Nat.le_trans hs hg.size⟩
  · show OwnNums w2 (bb + 1) 5 .u8 (if j = i then _ else vs j) []
    by_cases e : j = i
    · rw [if_pos e]; exact hO.mono hs
    · rw [if_neg e]; exact (h.O j (by omega)).kept hg (by omega)
  · show (if j = i then _ else vs j : Value).ownBlock ≠ (if k = i then _ else vs k : Value).ownBlock
    by_cases e1 : j = i
    · rw [if_pos e1, if_neg (by omega)]
      intro e
      have hlt := (World.ownsRow.lt (h.O k (by omega)) g (by rw [← e]; rfl)).2
      omega
    · rw [if_neg e1]
      by_cases e2 : k = i
      · rw [if_pos e2]
        intro e
        have hlt := (World.ownsRow.lt (h.O j (by omega)) g e).2
        omega
      · rw [if_neg e2]; exact h.D j k (by omega) (by omega) hne
theorem BsSt.alloc {w wr : World} {bb R i : Nat} {vs : Nat → Value} {tx : Nat → List Int} (h : BsSt w wr bb R i vs tx) (ob : Obj) : BsSt w (wr.alloc ob) bb R i vs tx := ⟨h.F.alloc ob, fun j hj => (h.O j hj).alloc ob, h.D, h.B.alloc h.B.size ob, h.o, by rw [size_al]; have := h.s; omega⟩
theorem bI_fresh (bb : Nat) (vs : Nat → Value) (i : Nat) : bI bb vs i (i * 2) = .pointer none ∧ bI bb vs i (i * 2 + 1) = .slice none 0 0 := by
  unfold bI
  constructor
  · rw [if_neg (show ¬ i * 2 / 2 < i by omega), if_pos (show i * 2 % 2 = 0 by omega)]
  · rw [if_neg (show ¬ (i * 2 + 1) / 2 < i by omega), if_neg (show ¬ (i * 2 + 1) % 2 = 0 by omega)]
theorem bI_used (bb : Nat) (vs : Nat → Value) (R i : Nat) (hi : i < R) : bI bb vs R (i * 2) = .pointer (some ⟨bb, i * 2, none⟩) ∧ bI bb vs R (i * 2 + 1) = vs i := by
  unfold bI
  constructor
  · rw [if_pos (show i * 2 / 2 < R by omega), if_pos (show i * 2 % 2 = 0 by omega)]
  · rw [if_pos (show (i * 2 + 1) / 2 < R by omega), if_neg (show ¬ (i * 2 + 1) % 2 = 0 by omega), show (i * 2 + 1) / 2 = i by omega]
/-- another block turned -/
theorem BsSt.far {w wr w2 : World} {bb R i b : Nat} {vs : Nat → Value} {tx : Nat → List Int} (h : BsSt w wr bb R i vs tx) (hg : wr.grownBy w2 (some b)) (hb : b ≠ bb) (hw : w.heap.size ≤ b) (ho : ∀ j, j < i → (vs j).ownBlock ≠ some b) : BsSt w w2 bb R i vs tx :=
  ⟨h.F.far hg (fun e => hb (Option.some.inj e).symm), fun j hj => World.ownsRow.kept (h.O j hj) hg (Or.inr (ho j hj)), h.D, h.B.grown hg h.B.size (fun k hk => by have e2 : b = k := Option.some.inj hk; omega), h.o, Nat.le_trans h.s hg.size⟩
theorem BsSt.drewN {w wr : World} {bb R i : Nat} {vs : Nat → Value} {tx : Nat → List Int} (h : BsSt w wr bb R i vs tx) (k : Nat) : BsSt w (wr.drewN k) bb R i vs tx := ⟨h.F.drewN k, fun j hj => h.O j hj, h.D, ⟨h.B.os, h.B.tape, h.B.output, h.B.size, h.B.block⟩, h.o, h.s⟩
/-- bytes written into one of them -/
theorem BsSt.write {w wr w2 : World} {bb R i q len cap : Nat} {vs : Nat → Value} {tx : Nat → List Int} {xs : List Int} (h : BsSt w wr bb R R vs tx) (hi : i < R) (hF : FRow w2 bb 83 (R * 2) (putF (bI bb vs R) (i * 2 + 1) (.slice (some ⟨q, 0, none⟩) len cap))) (hO : OwnNums w2 (bb + 1) 5 .u8 (.slice (some ⟨q, 0, none⟩) len cap) xs)
    (hq : (vs i).ownBlock = some q ∨ q = wr.heap.size) (hg : Grown2 wr w2 bb (vs i).ownBlock) : BsSt w w2 bb R R (fun j => if j = i then .slice (some ⟨q, 0, none⟩) len cap else vs j) (fun j => if j = i then xs else tx j) := by
  have hs := h.s
  have ho := h.o
  have key : ∀ j, j < R → j ≠ i → (vs j).ownBlock ≠ some q := fun j hj hne e => by
    rcases hq with e2 | e2
    · exact h.D j i hj hi hne (e.trans e2.symm)
    · have := (World.ownsRow.lt (h.O j hj) q e).2; omega
  refine ⟨hF.congr fun p _ => bI_put bb vs R i _ hi p, fun j hj => ?_, fun j k hj hk hne => ?_, hg.below h.B ho (fun k hk => by have := (World.ownsRow.lt (h.O i hi) k hk).1; omega) h.B.size, ho, Nat.le_trans hs hg.size⟩
  · show OwnNums w2 (bb + 1) 5 .u8 (if j = i then _ else vs j) (if j = i then xs else tx j)
    by_cases e : j = i
    · rw [if_pos e, if_pos e]; exact hO
    · rw [if_neg e, if_neg e]; exact hg.own (h.O j hj) ((h.O j hj).ne (by omega)) (Or.inl (h.D j i hj hi e))
  · show (if j = i then _ else vs j : Value).ownBlock ≠ (if k = i then _ else vs k : Value).ownBlock
    by_cases e1 : j = i
    · rw [if_pos e1, if_neg (by omega)]
      exact fun e => key k hk (by omega) e.symm
    · rw [if_neg e1]
      by_cases e2 : k = i
      · rw [if_pos e2]; exact fun e => key j hj e1 e
      · rw [if_neg e2]; exact h.D j k hj hk hne
theorem range_two {α : Type} (f : Nat → α) (a b : Nat) : (List.range a).map f ++ (List.range b).map (fun j => f (a + j)) = (List.range (a + b)).map f := by
  rw [List.range_add, List.map_append, List.map_map]; rfl
theorem mixN_congr {fac ld ld' : Nat → Nat → Nat} {i j j' : Nat} : ∀ k, (∀ t, t < k → ld t j = ld' t j') → mixN fac ld i j k = mixN fac ld' i j' k
  | 0, _ => rfl
  | k + 1, h => by
    show mixN fac ld i j k ^^^ _ = mixN fac ld' i j' k ^^^ _
    rw [mixN_congr k (fun t ht => h t (by omega)), h k (by omega)]
theorem ldF_PF (c0 : Nat) (ld : Nat → Nat → Nat) (ts : Nat → ByteArray) (o c n : Nat) (p : Nat) : ldF (PF c0 ld) ts o c n p = PF c (fun k j => if k < n ∧ j < c then sb (ts k) (o + j) else ld k j) p := by
  unfold ldF PF
  by_cases h0 : p = 0
  · rw [if_pos h0, if_pos h0]
  · rw [if_neg h0, if_neg h0, if_neg h0]
    show _ = Value.int .u8 (((if (p - 1) / 512 < n ∧ (p - 1) % 512 < c then _ else _) : Nat) : Int)
    by_cases h1 : (p - 1) / 512 < n ∧ (p - 1) % 512 < c
    · rw [if_pos h1, if_pos h1]
    · rw [if_neg h1, if_neg h1]
set_option maxRecDepth 20000 in
set_option maxHeartbeats 4000000 in
theorem imixSh (rg R cp sg so n cps L : Nat) (hR1 : 1 ≤ R) (hR : R ≤ 64) (hn1 : 1 ≤ n) (hn : n ≤ 32) (hL1 : 1 ≤ L) (hL : L ≤ 4096) (fac : Nat → Nat → Nat) (ts : Nat → ByteArray) (hts : ∀ i, i < n → (ts i).size = L) (hf8 : ∀ i k, fac i k < 256) (w : World) (hT : Tab w)
    (hRw : ∀ i k, i < R → k < 32 → w.cell? ⟨rg, i * 32 + k, none⟩ = some (.int .u8 ((fac i k : Nat) : Int))) (hS : ∀ i, i < n → w.cell? ⟨sg, so + i, none⟩ = some (.string (ts i))) :
    Calls Tryd.prog 26 #[.slice (some ⟨rg, 0, none⟩) R cp, .slice (some ⟨sg, so, none⟩) n cps] w fun e w' => ∃ tg, e = .returned (.slice (some ⟨tg, 0, none⟩) R R) ∧ w.heap.size ≤ tg ∧ FRow w' tg 9 R (fun i => .string (strOfNums (nl ((List.range L).map fun p => mixN fac (fun k p => if k < n then sb (ts k) p else 0) i p 32)))) ∧ Below w.heap.size w w' := by
  have s0 := hS 0 (by omega)
  rw [Nat.add_zero] at s0
  have z0 := hts 0 (by omega)
  obtain ⟨t0, ht0⟩ : ∃ t, t = ts 0 := ⟨_, rfl⟩
  rw [← ht0] at s0 z0
  have i1 : (0 : Int) < (n : Int) := by omega
  have hmk := fun w => mkB w R hR
  have hzP := zvP
  have HT := hid hT
  have HR := hid hRw
  have HS := hid hS
  have HTS := hid hts
  have HF8 := hid hf8
  clear hT hRw hS hts hf8 ht0
  go_enter Tryd.func26, Tryd.ntmps26
  go_wp2_with fail
  obtain ⟨W0, hW0⟩ : ∃ W0, W0 = w.alloc (.cells (madeCells #[.pointer none, .slice none 0 0] (R * 2)) 83) := ⟨_, rfl⟩
  have S0 : Hid (BsSt w W0 w.heap.size R 0 (fun _ => undef) (fun _ => [])) := by
    refine ⟨by rw [hW0]; exact madeB w R, fun j hj => absurd hj (Nat.not_lt_zero _), fun j _ hj => absurd hj (Nat.not_lt_zero _), by rw [hW0]; exact (Below.refl _ _).alloc (Nat.le_refl _) _, Nat.le_refl _, by rw [hW0, size_al]; omega⟩
  rw [← hW0]
  clear hW0 hmk
  go_loopw [23] (fun y wr => ∃ (i : Nat) (vs : Nat → Value), i ≤ R ∧ y = .int .i64 i ∧ BsSt w wr w.heap.size R i vs (fun _ => [])) (fun y _ => R - (intOf y).toNat)
  case atStart => exact ⟨0, _, Nat.zero_le _, rfl, S0.out⟩
  case round =>
    obtain ⟨i, vs, hi, rfl, hst⟩ := hrel
    have ST := hid hst
    clear hst S0
    by_cases hlt : i < R
    · have hlt' : (i : Int) < (R : Int) := by omega
      have i0 : (0 : Int) ≤ (i : Int) := by omega
      go_wp2_with fail
      refine (bGrow w.heap.size R i L hlt hR hL1 (by omega) _ _ ST.out.F (bI_fresh _ _ _).1 (bI_fresh _ _ _).2).mono ?_
      rintro e w2 ⟨rfl, g, cap, hF2, hO2, hg2⟩
      have ST2 := hid (ST.out.grow hF2 hO2 hg2)
      clear hF2 hO2 hg2 ST
      go_wp2
      go_roundw
      case rel => exact ⟨i + 1, _, by omega, by go_num, ST2.out⟩
      case measure => simp [intOf]; omega
    · have hie : i = R := by omega
      have STE : Hid (BsSt w wr w.heap.size R R vs (fun _ => [])) := by rw [hie] at ST; exact ST
      have hlt' : ¬ (i : Int) < (R : Int) := by omega
      clear hie ST
      go_wp2_with fail
      obtain ⟨lb, hlb⟩ : ∃ lb, lb = wr.heap.size := ⟨_, rfl⟩
      obtain ⟨W1, hW1⟩ : ∃ W1, W1 = (wr.alloc (.cells pz 107)).alloc (.cells pz 107) := ⟨_, rfl⟩
      have S1 : Hid (BsSt w W1 w.heap.size R R vs (fun _ => [])) := by rw [hW1]; exact (STE.out.alloc _).alloc _
      have FL1 : Hid (FRow W1 lb 107 32769 (PF 0 fun _ _ => 0)) := by rw [hW1, hlb]; exact (pzRow (RowAt.new wr _ _)).alloc _
      have FM1 : Hid (FRow W1 (lb + 1) 107 32769 (PF 0 fun _ _ => 0)) := by rw [hW1, hlb]; exact pzRow (RowAt.next _ _ _ (by rw [size_al]))
      have NB1 : Hid (∀ j, j < R → (vs j).ownBlock ≠ some lb ∧ (vs j).ownBlock ≠ some (lb + 1)) := fun j hj => by
        constructor
        · intro e; have := (World.ownsRow.lt (STE.out.O j hj) _ e).2; omega
        · intro e; have := (World.ownsRow.lt (STE.out.O j hj) _ e).2; omega
      have LB : Hid (w.heap.size + 1 ≤ lb) := by have := STE.out.s; show _ ≤ _; omega
      rw [← hW1, ← hlb]
      clear hW1 hlb STE
      obtain ⟨out, hout⟩ : ∃ out : Nat → Nat → Nat, out = fun i p => mixN fac (fun k p => if k < n then sb (ts k) p else 0) i p 32 := ⟨_, rfl⟩
      have HOUT := hid hout
      have OUT8 : Hid (∀ i p, out i p < 256) := fun i p => by rw [hout]; exact mixN_lt (HF8.out i) 32
      have rgl : Hid (rg < w.heap.size) := World.block_lt_of_cell? w _ (HR.out 0 0 (by omega) (by omega))
      have sgl : Hid (sg < w.heap.size) := World.block_lt_of_cell? w _ (HS.out 0 (by omega))
      have gl1 : Hid (2 < w.heap.size) := HT.out.lt
      clear hout s0 z0
      go_wp2_with fail
      go_loopw [10] (fun y wr => ∃ (o : Nat) (vs : Nat → Value) (c c' : Nat) (ld m : Nat → Nat → Nat), o < L + 512 ∧ y = .int .i64 o ∧ BsSt w wr w.heap.size R R vs (fun i => nl ((List.range (min o L)).map (out i))) ∧ FRow wr lb 107 32769 (PF c ld) ∧ (∀ k j, ld k j < 256) ∧ (∀ k j, n ≤ k → ld k j = 0) ∧ FRow wr (lb + 1) 107 32769 (PF c' m) ∧ ∀ j, j < R → (vs j).ownBlock ≠ some lb ∧ (vs j).ownBlock ≠ some (lb + 1)) (fun y _ => L + 512 - (intOf y).toNat)
      case atStart => exact ⟨0, vs, 0, 0, _, _, by omega, rfl, by rw [Nat.zero_min]; exact S1.out, FL1.out, fun _ _ => by decide, fun _ _ _ => rfl, FM1.out, NB1.out⟩
      case round =>
        obtain ⟨o, vs, c0, c1, ld, m, hoL, rfl, hst, hFL, hl8, hlz, hFM, hnb⟩ := hrel
        have ST := hid hst
        have FL := hid hFL
        have FM := hid hFM
        have HL8 := hid hl8
        have HLZ := hid hlz
        have NB := hid hnb
        clear hst hFL hFM hl8 hlz hnb S1 FL1 FM1 NB1
        by_cases hlt : o < L
        · have hlt' : (o : Int) < (L : Int) := by omega
          obtain ⟨c, hc⟩ : ∃ c, c = min 512 (L - o) := ⟨_, rfl⟩
          have e1 : c ≤ 512 := by omega
          have e2 : c ≤ L - o := by omega
          have e3 : Hid (c = 512 ∨ c = L - o) := by show _ ∨ _; omega
          have e4 : 0 < c := by omega
          have e5 : Hid (min (o + 512) L = o + c) := by show _ = _; omega
          have e6 : Hid (min o L = o) := by show _ = _; omega
          clear hc
          have z1 := LB.out
          have z2 := sgl.out
          have z3 := rgl.out
          have z4 := gl1.out
          go_wp2_with fail
          refine (iload lb sg so n cps L o c ts hn1 (by omega) HTS.out hlt hL e1 e2 e3.out _ _ FL.out (fun i hi => (ST.out.B.cell (p := ⟨sg, so + i, none⟩) z2).trans (HS.out i hi)) (by omega)).mono ?_
          rintro e w2 ⟨rfl, hF2, hg2⟩
          have FL2 : Hid (FRow w2 lb 107 32769 (PF c (fun k j => if k < n ∧ j < c then sb (ts k) (o + j) else ld k j))) := hF2.congr fun p _ => ldF_PF c0 ld ts o c n p
          have ST2 := hid (ST.out.far hg2 (by omega) (by omega) (fun j hj => (NB.out j hj).1))
          have FM2 := hid (FM.out.far hg2 (fun e => by have e9 : lb + 1 = lb := Option.some.inj e; omega))
          clear hF2 hg2 ST FL FM
          go_wp2_with fail
          refine (imix (lb + 1) lb rg R cp c c1 hR e4 e1 fac _ m HF8.out ?hl8 _ ?hT (by omega) FM2.out FL2.out ?hS (by omega) (by omega)).mono ?_
          case hl8 =>
            intro k j
            show (if k < n ∧ j < c then sb (ts k) (o + j) else ld k j) < 256
            split
            · exact sb_lt _ _
            · exact HL8.out k j
          case hT => exact HT.out.below ST2.out.B z4
          case hS => exact fun i k hi hk => (ST2.out.B.cell (p := ⟨rg, i * 32 + k, none⟩) z3).trans (HR.out i k hi hk)
          rintro e w3 ⟨rfl, hF3, hg3⟩
          have FM3 : Hid (FRow w3 (lb + 1) 107 32769 (PF c (fun i j => if i < R ∧ j < c then out i (o + j) else m i j))) := by
            refine hF3.congr fun p hp => PF_congr (fun i j _ _ => ?_) p hp
            show (if i < R ∧ j < c then _ else m i j) = if i < R ∧ j < c then out i (o + j) else m i j
            by_cases h1 : i < R ∧ j < c
            · rw [if_pos h1, if_pos h1, HOUT.out]
              refine mixN_congr 32 fun t ht => ?_
              show (if t < n ∧ j < c then sb (ts t) (o + j) else ld t j) = if t < n then sb (ts t) (o + j) else 0
              by_cases h2 : t < n
              · rw [if_pos ⟨h2, h1.2⟩, if_pos h2]
              · rw [if_neg (fun h => h2 h.1), if_neg h2, HLZ.out t j (by omega)]
            · rw [if_neg h1, if_neg h1]
          have ST3 : Hid (BsSt w w3 w.heap.size R R vs (fun i => nl ((List.range o).map (out i)))) := by have h9 := ST2.out.far hg3 (by omega) (by omega) (fun j hj => (NB.out j hj).2); rw [e6.out] at h9; exact h9
          have FL3 := hid (FL2.out.far hg3 (fun e => by have e9 : lb = lb + 1 := Option.some.inj e; omega))
          clear hF3 hg3 ST2 FL2 FM2
          go_wp2_with fail
          go_loopw [44] (fun y wr => ∃ (i : Nat) (vs : Nat → Value), i ≤ R ∧ y = .int .i64 i ∧ BsSt w wr w.heap.size R R vs (fun j => nl ((List.range (if j < i then o + c else o)).map (out j))) ∧ FRow wr lb 107 32769 (PF c (fun k j => if k < n ∧ j < c then sb (ts k) (o + j) else ld k j)) ∧ FRow wr (lb + 1) 107 32769 (PF c (fun i j => if i < R ∧ j < c then out i (o + j) else m i j)) ∧ ∀ j, j < R → (vs j).ownBlock ≠ some lb ∧ (vs j).ownBlock ≠ some (lb + 1)) (fun y _ => R - (intOf y).toNat)
          case atStart => exact ⟨0, vs, Nat.zero_le _, rfl, ST3.out, FL3.out, FM3.out, NB.out⟩
          case round =>
            obtain ⟨i, vs, hi, rfl, hst, hFL, hFM, hnb⟩ := hrel
            have ST := hid hst
            have FL := hid hFL
            have FM := hid hFM
            have NB' := hid hnb
            clear hst hFL hFM hnb ST3 FL3 FM3 NB
            by_cases hli : i < R
            · have hli' : (i : Int) < (R : Int) := by omega
              have i0 : (0 : Int) ≤ (i : Int) := by omega
              have U1 := hid (bI_used w.heap.size vs R i hli)
              have OO : Hid (OwnNums wr (w.heap.size + 1) 5 .u8 (vs i) (nl ((List.range o).map (out i)))) := by
                have h9 := ST.out.O i hli
                rw [if_neg (by omega)] at h9; exact h9
              obtain ⟨bs, hbs⟩ : ∃ bs : List Int, bs = nl ((List.range c).map fun j => out i (o + j)) := ⟨_, rfl⟩
              have HBL : Hid (bs.length = c) := by show _ = _; rw [hbs, nl_len]; simp
              have HBC : Hid (∀ j, j < c → wr.cell? ⟨lb + 1, 1 + i * 512 + j, none⟩ = some (.int .u8 (bs.getD j 0))) := fun j hj => by
                rw [FM.out.cell (by omega), PF_at _ _ _ _ (by omega), hbs, nl_at]
                show some (Value.int .u8 (((if i < R ∧ j < c then out i (o + j) else m i j) : Nat) : Int)) = _
                rw [if_pos ⟨hli, hj⟩, List.getD_eq_getElem?_getD, List.getElem?_map, List.getElem?_range hj]; rfl
              have HXL : Hid ((nl ((List.range o).map (out i))).length = o) := by show _ = _; rw [nl_len]; simp
              have HAP : Hid (nl ((List.range o).map (out i)) ++ bs = nl ((List.range (o + c)).map (out i))) := by
                show _ = _
                rw [hbs, ← range_two]; unfold nl; rw [List.map_append]
              have P0 : Hid (PF c (fun i j => if i < R ∧ j < c then out i (o + j) else m i j) 0 = .int .i64 c) := PF_zero _ _
              clear hbs
              go_wp2_with fail
              go_region_held3 (fun _ => True) ((trivial)) ((first | (go_at_call 43; refine (ipiece (lb + 1) c i (by omega) e1 _ _ FM.out.drew P0.out).mono ?_; rintro e w4 ⟨rfl, k4, rfl⟩) | (go_at_call 42; refine (bWriteD (1 + k4) w.heap.size R i (w.heap.size + 1) hli _ (vs i) (nl ((List.range o).map (out i))) bs (lb + 1) (1 + i * 512) c 512 wr ST.out.F U1.out.1 U1.out.2 OO.out (by omega) ST.out.s HBL.out e4 (by omega) (by rw [HXL.out]; omega) HBC.out).mono ?_; rintro e w5 ⟨⟨r5, rfl⟩, q, cap, hF5, hO5, hq5, hg5⟩)))
              rw [HAP.out] at hO5
              have ST5 : Hid (BsSt w w5 w.heap.size R R (fun j => if j = i then .slice (some ⟨q, 0, none⟩) ((nl ((List.range o).map (out i))).length + c) cap else vs j) (fun j => nl ((List.range (if j < i + 1 then o + c else o)).map (out j)))) := by
                have h9 := ST.out.write hli hF5 hO5 hq5 hg5
                refine ⟨h9.F, fun j hj => ?_, h9.D, h9.B, h9.o, h9.s⟩
                have h8 := h9.O j hj
                by_cases e : j = i
                · rw [if_pos e] at h8
                  rw [if_pos (show j < i + 1 by omega), e]
                  rw [e] at h8
                  simp only [if_true] at h8 ⊢
                  exact h8
                · simp only [if_neg e] at h8 ⊢
                  by_cases e2 : j < i
                  · rw [if_pos e2] at h8; rw [if_pos (show j < i + 1 by omega)]; exact h8
                  · rw [if_neg e2] at h8; rw [if_neg (show ¬ j < i + 1 by omega)]; exact h8
              have NL : Hid (some lb ≠ (vs i).ownBlock) := fun e => (NB'.out i hli).1 e.symm
              have NM : Hid (some (lb + 1) ≠ (vs i).ownBlock) := fun e => (NB'.out i hli).2 e.symm
              have FL5 := hid (hg5.far FL.out (by omega) NL.out)
              have FM5 := hid (hg5.far FM.out (by omega) NM.out)
              have hll := FM.out.lt
              have NB5 : Hid (∀ j, j < R → ((fun j => if j = i then .slice (some ⟨q, 0, none⟩) ((nl ((List.range o).map (out i))).length + c) cap else vs j : Nat → Value) j).ownBlock ≠ some lb ∧ ((fun j => if j = i then .slice (some ⟨q, 0, none⟩) ((nl ((List.range o).map (out i))).length + c) cap else vs j : Nat → Value) j).ownBlock ≠ some (lb + 1)) := fun j hj => by
                show (if j = i then _ else vs j : Value).ownBlock ≠ some lb ∧ (if j = i then _ else vs j : Value).ownBlock ≠ some (lb + 1)
                by_cases e : j = i
                · rw [if_pos e]
                  constructor
                  · intro h8
                    have e8 : q = lb := Option.some.inj h8
                    rcases hq5 with h7 | h7
                    · exact (NB'.out i hli).1 (by rw [h7, e8])
                    · omega
                  · intro h8
                    have e8 : q = lb + 1 := Option.some.inj h8
                    rcases hq5 with h7 | h7
                    · exact (NB'.out i hli).2 (by rw [h7, e8])
                    · omega
                · rw [if_neg e]; exact NB'.out j hj
              clear hF5 hO5 hq5 hg5 ST FL FM OO U1 HBC HBL HXL HAP
              go_wp2
              go_roundw
              case rel => exact ⟨i + 1, _, by omega, by go_num, ST5.out, FL5.out, FM5.out, NB5.out⟩
              case measure => simp [intOf]; omega
            · have hie : i = R := by omega
              have STE : Hid (BsSt w wr w.heap.size R R vs (fun j => nl ((List.range (min (o + 512) L)).map (out j)))) := by
                refine ⟨ST.out.F, fun j hj => ?_, ST.out.D, ST.out.B, ST.out.o, ST.out.s⟩
                have h8 := ST.out.O j hj
                rw [if_pos (by omega)] at h8
                rw [e5.out]; exact h8
              have hl9 : Hid (∀ k j, (fun k j => if k < n ∧ j < c then sb (ts k) (o + j) else ld k j : Nat → Nat → Nat) k j < 256) := fun k j => by
                show (if k < n ∧ j < c then sb (ts k) (o + j) else ld k j) < 256
                split
                · exact sb_lt _ _
                · exact HL8.out k j
              have hlz9 : Hid (∀ k j, n ≤ k → (fun k j => if k < n ∧ j < c then sb (ts k) (o + j) else ld k j : Nat → Nat → Nat) k j = 0) := fun k j hk => by
                show (if k < n ∧ j < c then sb (ts k) (o + j) else ld k j) = 0
                rw [if_neg (by omega)]; exact HLZ.out k j hk
              have hli' : ¬ (i : Int) < (R : Int) := by omega
              clear hie ST
              go_wp2
              go_roundw
              case rel => exact ⟨o + 512, vs, _, _, _, _, by omega, by go_num, STE.out, FL.out, hl9.out, hlz9.out, FM.out, NB'.out⟩
              case measure => simp [intOf]; omega
        · have e7 : Hid (min o L = L) := by show _ = _; omega
          have hlt' : ¬ (o : Int) < (L : Int) := by omega
          have hmS := fun w => mkS w R hR
          obtain ⟨xs, hxs⟩ : ∃ xs : Nat → List Int, xs = fun i => nl ((List.range L).map (out i)) := ⟨_, rfl⟩
          have STE : Hid (BsSt w wr w.heap.size R R vs xs) := by rw [hxs]; have h9 := ST.out; rw [e7.out] at h9; exact h9
          have HXL : Hid (∀ i, (xs i).length = L) := fun i => by rw [hxs]; show (nl _).length = L; rw [nl_len]; simp
          have HX8 : Hid (∀ i, ∀ x ∈ xs i, 0 ≤ x ∧ x < 256) := fun i x hx => by
            rw [hxs] at hx
            obtain ⟨y, hy, rfl⟩ := List.mem_map.1 hx
            obtain ⟨p, _, rfl⟩ := List.mem_map.1 hy
            have := OUT8.out i p; omega
          have HXE : Hid (∀ i, xs i = nl ((List.range L).map fun p => mixN fac (fun k p => if k < n then sb (ts k) p else 0) i p 32)) := fun i => by rw [hxs, HOUT.out]
          clear hxs ST FL FM e7
          go_wp2_with fail
          obtain ⟨tg, htg⟩ : ∃ tg, tg = wr.heap.size := ⟨_, rfl⟩
          obtain ⟨W6, hW6⟩ : ∃ W6, W6 = wr.alloc (.cells (madeCells #[.string ⟨#[]⟩] R) 9) := ⟨_, rfl⟩
          have S6 : Hid (BsSt w W6 w.heap.size R R vs xs) := by rw [hW6]; exact STE.out.alloc _
          have T6 : Hid (FRow W6 tg 9 R (fun j => if j < 0 then .string (strOfNums (xs j)) else .string ⟨#[]⟩)) := by
            have h9 : FRow (wr.alloc (.cells (madeCells #[.string ⟨#[]⟩] R) 9)) wr.heap.size 9 R (fun _ => .string ⟨#[]⟩) := by
              have h := made_row wr 9 (fun _ => .string ⟨#[]⟩) R 1 (by decide)
              rw [Nat.mul_one] at h; exact h
            rw [hW6, htg]
            refine FRow.congr h9 fun p _ => ?_
            show _ = if p < 0 then _ else Value.string ⟨#[]⟩
            rw [if_neg (by omega)]
          have NT : Hid (∀ j, j < R → (vs j).ownBlock ≠ some tg) := fun j hj e => by have := (World.ownsRow.lt (STE.out.O j hj) _ e).2; omega
          have TG : Hid (w.heap.size + 1 ≤ tg) := by have := STE.out.s; show _ ≤ _; omega
          rw [← hW6, ← htg]
          clear hW6 htg STE hmS
          go_loopw [59] (fun y w2 => ∃ (i : Nat), i ≤ R ∧ y = .int .i64 i ∧ FRow w2 tg 9 R (fun j => if j < i then .string (strOfNums (xs j)) else .string ⟨#[]⟩) ∧ FRow w2 w.heap.size 83 (R * 2) (bI w.heap.size vs R) ∧ (∀ j, i ≤ j → j < R → OwnNums w2 (w.heap.size + 1) 5 .u8 (vs j) (xs j)) ∧ Below w.heap.size w w2) (fun y _ => R - (intOf y).toNat)
          case atStart => exact ⟨0, Nat.zero_le _, rfl, T6.out, S6.out.F, fun j _ hj => S6.out.O j hj, S6.out.B⟩
          case round =>
            obtain ⟨i, hi, rfl, hTx, hBf, hOw, hBe⟩ := hrel
            have HTx := hid hTx
            have HBf := hid hBf
            have HOw := hid hOw
            have HBe := hid hBe
            clear hTx hBf hOw hBe T6
            by_cases hli : i < R
            · have hli' : (i : Int) < (R : Int) := by omega
              have i0 : (0 : Int) ≤ (i : Int) := by omega
              have z1 := TG.out
              go_wp2_with fail
              refine (bString w.heap.size R i (w.heap.size + 1) hli _ (vs i) (xs i) _ HBf.out (bI_used _ _ _ _ hli).2 (HOw.out i (Nat.le_refl _) hli) (by omega) (by rw [HXL.out]; omega) (HX8.out i) (by rw [HXL.out]; omega)).mono ?_
              rintro e w7 ⟨rfl, hg7⟩
              have T7 := hid (HTx.out.far hg7 (fun e => NT.out i hli e.symm))
              have BF7 := hid (HBf.out.far hg7 ((HOw.out i (Nat.le_refl _) hli).ne (by omega)))
              have OW7 : Hid (∀ j, i + 1 ≤ j → j < R → OwnNums w7 (w.heap.size + 1) 5 .u8 (vs j) (xs j)) := fun j h1 h2 => World.ownsRow.kept (HOw.out j (by omega) h2) hg7 (Or.inr (S6.out.D j i h2 hli (by omega)))
              have BE7 : Hid (Below w.heap.size w w7) := HBe.out.grown hg7 HBe.out.size (fun k hk => by have := (World.ownsRow.lt (HOw.out i (Nat.le_refl _) hli) k hk).1; omega)
              clear hg7 HTx HBf HOw HBe
              have k1 := T7.out.cell hli
              have f1 := T7.out.free i
              obtain ⟨x1, hx1⟩ : ∃ x : Value, x = (if i < i then .string (strOfNums (xs i)) else .string ⟨#[]⟩) := ⟨_, rfl⟩
              rw [← hx1] at k1
              clear hx1
              have T8 : Hid (FRow (w7.setCell ⟨tg, i, none⟩ (.string (strOfNums (xs i)))) tg 9 R (fun j => if j < i + 1 then .string (strOfNums (xs j)) else .string ⟨#[]⟩)) := (T7.out.set _ _).congr fun p _ => by
                unfold putF
                by_cases e : p = i
                · rw [if_pos e, if_pos (show p < i + 1 by omega), e]
                · rw [if_neg e]
                  show (if p < i then _ else _) = if p < i + 1 then _ else _
                  by_cases e2 : p < i
                  · rw [if_pos e2, if_pos (show p < i + 1 by omega)]
                  · rw [if_neg e2, if_neg (show ¬ p < i + 1 by omega)]
              have BF8 : Hid (FRow (w7.setCell ⟨tg, i, none⟩ (.string (strOfNums (xs i)))) w.heap.size 83 (R * 2) (bI w.heap.size vs R)) := BF7.out.other _ _ (by dsimp only; omega)
              have OW8 : Hid (∀ j, i + 1 ≤ j → j < R → OwnNums (w7.setCell ⟨tg, i, none⟩ (.string (strOfNums (xs i)))) (w.heap.size + 1) 5 .u8 (vs j) (xs j)) := fun j h1 h2 => World.ownsRow.kept (OW7.out j h1 h2) grown_set (Or.inr (NT.out j h2))
              have BE8 : Hid (Below w.heap.size w (w7.setCell ⟨tg, i, none⟩ (.string (strOfNums (xs i))))) := BE7.out.setCell (by dsimp only; omega) _
              clear T7 BF7 OW7 BE7
              go_wp2
              go_roundw
              case rel => exact ⟨i + 1, by omega, by go_num, T8.out, BF8.out, OW8.out, BE8.out⟩
              case measure => simp [intOf]; omega
            · have hie : i = R := by omega
              have TE : Hid (FRow wr tg 9 R (fun i => .string (strOfNums (nl ((List.range L).map fun p => mixN fac (fun k p => if k < n then sb (ts k) p else 0) i p 32))))) := HTx.out.congr fun p hp => by rw [if_pos (by omega), HXE.out]
              have hli' : ¬ (i : Int) < (R : Int) := by omega
              have z1 := TG.out
              clear hie HTx
              go_wp2
              go_ret
              exact ⟨tg, rfl, by omega, TE.out, HBe.out⟩
end Go.Proofs.YthdmaamocejodaaDoor
