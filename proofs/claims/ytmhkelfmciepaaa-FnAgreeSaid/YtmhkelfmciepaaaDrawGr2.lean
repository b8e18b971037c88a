import Derived.Test.YtmhkelfmciepaaaDrawGr
namespace Go.Proofs.Ytmhkelfmciepaaa
open Go.RowKit
set_option linter.unusedVariables false
/-! (*l01Src).groupOps. -/
/-- an operation that was drawn: kind, member, aim, peers, text; where its peers lie -/
structure Gq where
  kd : Int
  mb : Int
  dt : Int
  pe : List Int
  tx : ByteArray
  pa : Option Addr
  pc : Nat
def gqC (x : Gq) : List Value := [.int .i64 x.kd, .int .i64 x.mb, .int .i64 x.dt, .slice x.pa x.pe.length x.pc, .string x.tx]
def gqL (L : List Gq) : List Value := L.flatMap gqC
theorem gqL_len (L : List Gq) : (gqL L).length = L.length * 5 := by
  induction L with
  | nil => rfl
  | cons f L ih => simp only [gqL, List.flatMap_cons, List.length_append, List.length_cons] at ih ⊢; rw [ih]; simp [gqC]; omega
theorem gqL_app (A B : List Gq) : gqL (A ++ B) = gqL A ++ gqL B := by simp [gqL]
def OwnGq (w : World) (base : Nat) (v : Value) (L : List Gq) : Prop := w.ownsRow base 42 5 v L.length (gqL L)
/-- what is known of a drawn operation in a world -/
def GqOk (w : World) (B : Nat) (x : Gq) : Prop := x.pe.length ≤ 9 ∧ x.tx.size ≤ 1001 ∧ OwnNums w B 2 .i64 (.slice x.pa x.pe.length x.pc) x.pe
theorem OwnGq.empty (w : World) (B : Nat) (hB : B ≤ w.heap.size) : OwnGq (w.alloc (.cells #[] 42)) B (.slice (some ⟨w.heap.size, 0, none⟩) 0 0) [] := by
  have q : OwnGq (w.alloc (.cells #[] 42)) w.heap.size (.slice (some ⟨w.heap.size, 0, none⟩) 0 0) [] := World.ownsRow_made w #[] 0 (Nat.le_refl _) (by decide) rfl
  refine ⟨q.1, ?_⟩
  rcases q.2 with h0 | ⟨g, cp, cur, e1, e2, e3⟩
  · exact .inl h0
  · exact .inr ⟨g, cp, cur, e1, Nat.le_trans hB e2, e3⟩
def GrDr (W0 w : World) (c : Nat) (a : Option Addr) (len cap p n : Nat) (e : Ending) (w' : World) : Prop :=
  ∃ (av : Option Addr) (cv : Nat) (L : List Gq) (p' : Nat), e = .returned (.slice av n cv) ∧ L.length = n ∧ Src W0 w' c a len cap p' ∧ p' ≤ p + 1 + n * 400 ∧ OwnGq w' w.heap.size (.slice av n cv) L ∧ (∀ x ∈ L, GqOk w' w.heap.size x) ∧ w.grownBy w' (some c)
section
variable {W0 W1 w w2 : World} {c : Nat} {a : Option Addr} {len cap XB p p2 : Nat} {kd mbv dt : Int} {aP : Option Addr} {cP : Nat} {xs : List Int} {tx : ByteArray}
theorem OwnNums.shp {w : World} {B : Nat} {e : TypeId} {k : IntKind} {v : Value} {xs : List Int} (h : OwnNums w B e k v xs) : ∃ a c, v = .slice a xs.length c := by
  rcases h.2 with ⟨h0, hx⟩ | ⟨g, cap, cur, h0, _⟩
  · exact ⟨none, 0, by rw [h0, hx]⟩
  · exact ⟨_, _, h0⟩
theorem GrIt.app (h : GrIt W0 W1 c a len cap XB w p kd mbv dt aP cP xs tx) (hc : c < W1.heap.size) (hX : W1.heap.size ≤ XB) {b : Int} {a' : Option Addr} {c' : Nat} (hO : OwnNums w2 W1.heap.size 2 .i64 (.slice a' (xs ++ [b]).length c') (xs ++ [b])) (hg : w.grownBy w2 (Value.slice aP xs.length cP).ownBlock) :
    GrIt W0 W1 c a len cap XB (w2.setCell ⟨XB, 3, none⟩ (.slice a' (xs ++ [b]).length c')) p kd mbv dt a' c' (xs ++ [b]) tx := by
  have hB : ∀ g, (Value.slice aP xs.length cP).ownBlock = some g → W1.heap.size ≤ g := fun g hg => (World.ownsRow.lt h.own g hg).1
  have b2 : RowAt w2 XB 42 _ := (hg.block XB h.box.lt (OwnNums.neG h.own h.box)).trans h.box
  refine ⟨(h.src.far hg (fun e => by have := hB c e.symm; omega) (fun g hg => by have := hB g hg; have := h.src.2.2.2.2; omega)).set (by omega) 3 _, grown_far (grown_own h.gr hg hB (Nat.le_refl _)) hX 3 _, b2.set 3 _, ?_⟩
  exact World.ownsRow.kept hO (grown_setCellF w2 XB 3 _) (by
      cases hv : (Value.slice a' (xs ++ [b]).length c').ownBlock with
      | none => exact .inl rfl
      | some g => exact .inr (by rw [← hv]; exact Ne.symm (OwnNums.neG hO b2)))
theorem GrUp.weak {P M P' M' : Nat} (h : GrUp W0 W1 c a len cap XB P M w) (hP : P ≤ P') (hM : M ≤ M') : GrUp W0 W1 c a len cap XB P' M' w := by
  obtain ⟨p, kd, mbv, dt, aP, cP, xs, tx, h1, h2, h3, h4⟩ := h
  exact ⟨p, kd, mbv, dt, aP, cP, xs, tx, h1, by omega, by omega, h4⟩
end
theorem Try.infoGopD : (Try.prog.info? 42).map (fun i => (i.zero, i.size, i.bytes)) = some (some (.agg #[.int .i64 0, .int .i64 0, .int .i64 0, .slice none 0 0, .string ⟨#[]⟩]), 5, 64) := by kernel_rfl
theorem Try.info64D : (Try.prog.info? 2).map (fun i => (i.zero, i.size, i.bytes)) = some (some (.int .i64 0), 1, 8) := by kernel_rfl
theorem append_gq {ops : Array Oper} {rest : List Oper} {o : Oper} {a : Act} {Q : Exit → Act → World → Prop} (base : Nat) (wr : World) (hgd : o.guard = none) (s x : Operand)
    (ho : o.op = .call { callee := .builtin .append, args := #[s, x], argTypes := #[23, 23] })
    (v : Value) (L : List Gq) (y : Gq) (hs : a.eval s = v) (hown : OwnGq wr base v L) (hsz : base ≤ wr.heap.size)
    (hx : a.eval x = .slice (some ⟨wr.heap.size, 0, none⟩) 1 1) (hlen : L.length ≤ 1048576)
    (h : ∀ v' w', OwnGq w' base v' (L ++ [y]) → wr.grownBy w' v.ownBlock → wpList Try.prog ops Q rest (a.put o.dst v') w') :
    wpList Try.prog ops Q (o :: rest) a (wr.alloc (.cells #[.int .i64 y.kd, .int .i64 y.mb, .int .i64 y.dt, .slice y.pa y.pe.length y.pc, .string y.tx] 42)) := by
  obtain ⟨i0, hi, hz0, hz1, hz2⟩ := info_parts Try.infoGopD
  refine wpList_append_own _ hgd s x 23 ho base 42 i0 _ 5 64 Try.underlying23 hi hz0 hz1 hz2 rfl (by decide) v L.length _ hs (World.ownsRow.alloc hown _) ⟨wr.heap.size, 0, none⟩ 1 1 [.int .i64 y.kd, .int .i64 y.mb, .int .i64 y.dt, .slice y.pa y.pe.length y.pc, .string y.tx] hx rfl ?_ ?_ ?_ ?_ ?_ ?_
  · intro j u hj
    have R := RowAt.new wr 42 #[.int .i64 y.kd, .int .i64 y.mb, .int .i64 y.dt, .slice y.pa y.pe.length y.pc, .string y.tx]
    match j, hj with
    | 0, hj => simp at hj; subst hj; exact R.cell 0
    | 1, hj => simp at hj; subst hj; exact R.cell 1
    | 2, hj => simp at hj; subst hj; exact R.cell 2
    | 3, hj => simp at hj; subst hj; exact R.cell 3
    | 4, hj => simp at hj; subst hj; exact R.cell 4
  · intro u hu; simp at hu; rcases hu with rfl | rfl | rfl | rfl | rfl <;> rfl
  · unfold maxLen; omega
  · omega
  · simp; omega
  · intro v' w' h1 h2 h3
    refine h v' w' ?_ (grown_trans (World.grownBy_alloc wr _ _) h2)
    unfold OwnGq
    rw [gqL_app, List.length_append]
    exact h1
def intsD (k : IntKind) (xs : List Int) : Array Value := (xs.map (Value.int k)).toArray
theorem made8D (n : Nat) : madeCells (Value.int .u8 0).cells (n * 1) = intsD .u8 (List.replicate n 0) := by
  apply Array.ext
  · simp [madeCells, intsD]
  · intro i h1 h2
    simp [madeCells, intsD, Value.cells, Nat.mod_one]
theorem mk_bytesD (w : World) (n : Nat) (hn : n ≤ 1048576) : (Instr.makeSlice 22 (.int .i64 n) (.int .i64 n)).run Try.prog w = .ok (.slice (some ⟨w.heap.size, 0, none⟩) n n) (w.alloc (.cells (intsD .u8 (List.replicate n 0)) 5)) := by
  obtain ⟨i0, hi, hz0, hz1, hz2⟩ := info_parts Try.infoU8
  have := run_make (P := Try.prog) w 22 5 i0 (.int .u8 0) Try.underlying22 hi hz0 .i64 .i64 n n (by omega) (Int.le_refl _) (by rw [hz2]; omega) (by omega)
  rw [this, hz1]
  simp only [Int.toNat_natCast, made8D]
theorem own_madeD (w : World) (n : Nat) (hn : n ≤ 1048576) : OwnNums (w.alloc (.cells (intsD .u8 (List.replicate n 0)) 5)) w.heap.size 5 .u8 (.slice (some ⟨w.heap.size, 0, none⟩) n n) (List.replicate n 0) := by
  refine ⟨by simp, .inr ⟨w.heap.size, n, intsD .u8 (List.replicate n 0), by simp, Nat.le_refl _, heap_alloc_new w _, by simp, by unfold maxLen; omega, by simp [intsD], ?_⟩⟩
  simp [intsD]
theorem grTab (mm k : Nat) (hk : k < 2) : ∃ t : Int, (#[.int .i64 (-1), .int .i64 (mm : Int)] : Array Value)[k]? = some (.int .i64 t) := by
  rcases (by omega : k = 0 ∨ k = 1) with rfl | rfl
  all_goals exact ⟨_, rfl⟩
theorem OwnNums.monoQ {w : World} {base base' : Nat} {e : TypeId} {k : IntKind} {v : Value} {xs : List Int} (h : OwnNums w base e k v xs) (hb : base' ≤ base) : OwnNums w base' e k v xs := by
  refine ⟨h.1, ?_⟩
  rcases h.2 with h0 | ⟨g, cap, cur, h1, h2, h3⟩
  · exact Or.inl h0
  · exact Or.inr ⟨g, cap, cur, h1, Nat.le_trans hb h2, h3⟩
theorem GrIt.appU {W0 W1 w w2 : World} {c : Nat} {a : Option Addr} {len cap XB p P M : Nat} {kd mbv dt : Int} {aP : Option Addr} {cP : Nat} {xs : List Int} {tx : ByteArray} (h : GrIt W0 W1 c a len cap XB w p kd mbv dt aP cP xs tx) (hc : c < W1.heap.size) (hX : W1.heap.size ≤ XB) {b : Int} {a' : Option Addr} {c' : Nat} (hO : OwnNums w2 W1.heap.size 2 .i64 (.slice a' (xs ++ [b]).length c') (xs ++ [b])) (hg : w.grownBy w2 (Value.slice aP xs.length cP).ownBlock) (hp : p ≤ P) (hM : xs.length + 1 ≤ M) (ht : tx.size ≤ 1001) :
    GrUp W0 W1 c a len cap XB P M (w2.setCell ⟨XB, 3, none⟩ (.slice a' (xs.length + 1) c')) := by
  have q := h.app hc hX hO hg
  have e : (xs ++ [b]).length = xs.length + 1 := by simp
  rw [e] at q
  exact ⟨_, _, _, _, _, _, _, _, q, hp, by rw [e]; exact hM, ht⟩
theorem OwnGq.shp {w : World} {B : Nat} {v : Value} {L : List Gq} (h : OwnGq w B v L) : ∃ a c, v = .slice a L.length c := by
  rcases h.2 with ⟨h0, hx⟩ | ⟨g, cap, cur, h0, _⟩
  · exact ⟨none, 0, by rw [h0, hx]⟩
  · exact ⟨_, _, h0⟩
/-- numbers stay where the row of operations is written -/
theorem OwnGq.keptN {w w' : World} {B B' : Nat} {u v : Value} {L : List Gq} {xs : List Int} (h : OwnGq w B u L) (hO : OwnNums w B' 2 .i64 v xs) (hg : w.grownBy w' u.ownBlock) : OwnNums w' B' 2 .i64 v xs := by
  refine World.ownsRow.kept hO hg ?_
  cases hv : v.ownBlock with
  | none => exact .inl rfl
  | some g =>
    refine .inr (fun e => ?_)
    rcases h.2 with ⟨h0, _⟩ | ⟨g', cap, cur, h0, _, hg', _⟩
    · rw [h0] at e; cases e
    · rw [h0] at e
      have eb : g = g' := Option.some.inj e
      subst eb
      exact OwnNums.neG hO (show RowAt w g 42 cur from hg') hv.symm
theorem grown_ownQ {w WR W9 w10 : World} {B c : Nat} {u : Value} {L : List Gq} (h : OwnGq WR B u L) (hG : w.grownBy WR (some c)) (hg : WR.grownBy W9 (some c)) (hg10 : W9.grownBy w10 u.ownBlock) (hb : ∀ g, u.ownBlock = some g → w.heap.size ≤ g) : w.grownBy w10 (some c) :=
  grown_own (grown_trans hG hg) hg10 hb (Nat.le_refl _)
set_option maxRecDepth 20000 in
set_option maxHeartbeats 8000000 in
theorem grOps_all (W0 w : World) (c : Nat) (a : Option Addr) (len cap p mm n : Nat) (h : Src W0 w c a len cap p) (hp : p ≤ 100000) (hm : 1 ≤ mm ∧ mm ≤ 5) (hn : n ≤ 1000) :
    Calls Try.prog 14 #[.pointer (some ⟨c, 0, none⟩), .int .i64 (mm : Int), .int .i64 (n : Int)] w fun e w' => GrDr W0 w c a len cap p n e w' := by
  have hcl := h.lt
  have h0c := h.2.2.2.2
  obtain ⟨W1, hW1⟩ : ∃ W, W = w.alloc (.cells #[] 42) := ⟨_, rfl⟩
  have S1 : Src W0 W1 c a len cap p := by rw [hW1]; exact h.alloc _
  have O1 : OwnGq W1 w.heap.size (.slice (some ⟨w.heap.size, 0, none⟩) 0 0) [] := by rw [hW1]; exact OwnGq.empty w _ (by omega)
  have G1 : w.grownBy W1 (some c) := by rw [hW1]; exact World.grownBy_alloc w _ _
  have KN := hid (n_all W0 W1 c a len cap p (mm : Int) S1 (by omega) (by omega) (by omega))
  have OO1 := hid O1
  have GG1 := hid G1
  have HW1 := hid hW1
  clear hW1 S1 O1 G1 h
  go_enter Try.func14, Try.ntmps14
  go_upto_region 2 with fail
  rw [← HW1.out]
  go_wp2_with fail
  refine KN.out.mono ?_
  rintro e w2 ⟨⟨ld, rfl, _, _⟩, hs2, hg2⟩
  have S2 := hid hs2
  have G2 := hid (grown_trans GG1.out hg2)
  have O2 : Hid (OwnGq w2 w.heap.size (.slice (some ⟨w.heap.size, 0, none⟩) 0 0) []) := World.ownsRow.kept OO1.out hg2 (.inr (fun e => by have : w.heap.size = c := Option.some.inj e; omega))
  clear hs2 hg2 KN HW1 OO1 GG1
  go_wp2_with fail
  go_loopw [7, 8, 9, 10, 11] (fun y7 y8 y9 y10 y11 wr => ∃ (i q : Nat) (ld : Int) (av : Option Addr) (cv : Nat) (L : List Gq), i ≤ n ∧ y9 = .int .i64 (i : Int) ∧ y8 = .int .i64 ld ∧ y7 = .slice av i cv ∧ L.length = i ∧ Src W0 wr c a len cap q ∧ q ≤ p + 1 + i * 400 ∧ OwnGq wr w.heap.size (.slice av i cv) L ∧ (∀ x ∈ L, GqOk wr w.heap.size x) ∧ w.grownBy wr (some c)) (fun _ _ y9 _ _ _ => n - (intOf y9).toNat)
  case atStart => exact ⟨0, p + 1, ld, _, _, [], Nat.zero_le _, rfl, rfl, rfl, rfl, S2.out, by omega, O2.out, fun x hx => (by cases hx), G2.out⟩
  case round =>
    obtain ⟨i, q, ld2, av, cv, L, hi, rfl, rfl, rfl, hL, hS, hq, hO, hA, hG⟩ := hrel
    obtain ⟨WR, rfl⟩ : ∃ v, v = wr := ⟨_, rfl⟩
    have SS := hid hS
    have OO := hid hO
    have AA := hid hA
    have GG := hid hG
    have HL := hid hL
    have cwr := hS.lt
    have hgsz := hG.size
    clear hS hO hA hG hL S2 O2 G2
    by_cases hlt : i < n
    · have hlt' : (i : Int) < (n : Int) := by omega
      go_upto_region 6 with fail
      refine dg6_wp W0 WR c a len cap q mm ld2 WR SS.out (below_grown (Below.refl _ _) _) cwr ⟨by omega, by omega, by omega⟩ ?_
      intro XT XB R2 kd R8 wd pp w3 hS3 hp3 hg3 _ ht3 hr2 hkd hr8 hwd hb3 _
      have hXB := hb3.1
      have U3 : Hid (GrIt W0 WR c a len cap XB w3 pp kd ld2 (R8 : Int) none 0 [] wd) := ⟨hS3, hg3, hb3.2, OwnNums.nilV _ _ _ _⟩
      clear hS3 hg3 ht3 hb3 hr2
      have b0 := U3.out.box.cell 0
      go_upto_block 2 with fail
      go_cut [8, 11] from 35 to 80 (fun y8 _ wx => (∃ l : Int, y8 = .int .i64 l) ∧ GrUp W0 WR c a len cap XB (q + 140) 5 wx)
      case first =>
        rcases (by omega : kd = 1 ∨ kd = 2 ∨ kd = 3 ∨ kd = 4) with rfl | rfl | rfl | rfl
        · have KN := hid (n_all W0 w3 c a len cap pp (mm : Int) U3.out.src (by omega) (by omega) (by omega))
          go_wp2_with fail
          refine KN.out.mono ?_
          rintro e w4 ⟨⟨r, rfl, _, _⟩, hs4, hg4⟩
          have U4 := hid (U3.out.call cwr hXB hs4 hg4)
          have f1 := U4.out.box.free 1
          have q1 := U4.out.box.cell 1
          have U5 := hid (U4.out.set cwr hXB (k := 1) (v := .int .i64 r) rfl)
          have g1 := U5.out.box.cell 1
          have U6 : Hid (GrUp W0 WR c a len cap XB (q + 121) 0 (w4.setCell ⟨XB, 1, none⟩ (.int .i64 r))) := ⟨_, _, _, _, _, _, _, _, U5.out, by omega, by simp, by omega⟩
          clear hs4 hg4 KN U3 U4 U5
          go_wp2_with fail
          go_loopw [11] (fun y11 wx => ∃ j : Nat, j ≤ mm ∧ y11 = .int .i64 (j : Int) ∧ GrUp W0 WR c a len cap XB (q + 121 + j) j wx) (fun y11 _ => mm - (intOf y11).toNat)
          case atStart => exact ⟨0, Nat.zero_le _, rfl, U6.out⟩
          case round =>
            obtain ⟨j, hj, rfl, hU⟩ := hrel
            by_cases hjm : j < mm
            · have hjm' : (j : Int) < (mm : Int) := by omega
              obtain ⟨p5, k5, m5, d5, a5, c5, x5, t5, hI5, hp5, hx5, ht5⟩ := hU
              have U5 := hid hI5
              clear hI5 U6
              have KO := hid (one_all W0 wr c a len cap p5 4 U5.out.src (by omega) (by omega) (by omega))
              go_wp2_with fail
              refine KO.out.mono ?_
              rintro e w6 ⟨⟨bb, rfl⟩, hs6, hg6⟩
              have U6 := hid (U5.out.call cwr hXB hs6 hg6)
              clear hs6 hg6 KO U5
              cases bb with
              | true =>
                go_wp2_with fail
                go_roundw
                case rel => exact ⟨j + 1, by omega, by go_num, _, _, _, _, _, _, _, _, U6.out, by omega, by omega, by omega⟩
                case measure => simp [intOf]; omega
              | false =>
                have b3 := U6.out.box.cell 3
                have Z6 : WR.heap.size ≤ w6.heap.size := U6.out.gr.size
                go_wp2_with (first | (at_builtin; refine append_num2 WR.heap.size w6 rfl (.tmp 52) (.tmp 54) 27 rfl 2 .i64 8 Try.underlying27 Try.info64D (by decide) (.slice a5 x5.length c5) x5 (j : Int) rfl U6.out.own Z6 rfl (by omega) ?_) | go_in)
                intro v8 w7 hO7 hg7
                obtain ⟨a7, c7, rfl⟩ := OwnNums.shp hO7
                have U7 : Hid (GrUp W0 WR c a len cap XB (q + 121 + (j + 1)) (j + 1) _) := U6.out.appU cwr hXB hO7 hg7 (by omega) (by omega) (by omega)
                have B7 : RowAt w7 XB 42 _ := (hg7.block XB U6.out.box.lt (OwnNums.neG U6.out.own U6.out.box)).trans U6.out.box
                have f3 := B7.free 3
                have q3 := B7.cell 3
                clear hO7 hg7 B7 U6 b3
                go_wp2_with fail
                go_roundw
                case rel => exact ⟨j + 1, by omega, by go_num, U7.out⟩
                case measure => simp [intOf]; omega
            · have hjm' : ¬ (j : Int) < (mm : Int) := by omega
              have U7 := hid hU
              clear hU U6
              go_wp2_with fail
              go_meet
              exact ⟨⟨_, rfl⟩, U7.out.weak (by omega) (by omega)⟩
        · go_wp2_with fail
          go_meet
          exact ⟨⟨_, rfl⟩, _, _, _, _, _, _, _, _, U3.out, by omega, by simp, by omega⟩
        · have b1 := U3.out.box.cell 1
          have b2 := U3.out.box.cell 2
          have mz : (mm : Int) ≠ 0 := by omega
          have KO := hid (one_all W0 w3 c a len cap pp 6 U3.out.src (by omega) (by omega) (by omega))
          by_cases hTo : (R8 : Int) = ld2
          · subst hTo
            go_wp2_with fail
            refine KO.out.mono ?_
            rintro e w4 ⟨⟨bb, rfl⟩, hs4, hg4⟩
            have U4 := hid (U3.out.call cwr hXB hs4 hg4)
            clear hs4 hg4 KO U3 b1 b2
            cases bb with
            | true =>
              go_wp2_with fail
              go_meet
              exact ⟨⟨_, rfl⟩, _, _, _, _, _, _, _, _, U4.out, by omega, by simp, by omega⟩
            | false =>
              have f2 := U4.out.box.free 2
              have q2 := U4.out.box.cell 2
              have U5 := fun v : Int => hid (U4.out.set cwr hXB (k := 2) (v := .int .i64 v) rfl)
              clear U4
              go_wp2_with fail
              go_meet
              exact ⟨⟨_, rfl⟩, _, _, _, _, _, _, _, _, (U5 _).out, by omega, by simp, by omega⟩
          · go_wp2_with fail
            go_meet
            exact ⟨⟨_, rfl⟩, _, _, _, _, _, _, _, _, U3.out, by omega, by simp, by omega⟩
        · have KN := hid (n_all W0 w3 c a len cap pp (mm : Int) U3.out.src (by omega) (by omega) (by omega))
          go_wp2_with fail
          refine KN.out.mono ?_
          rintro e w4 ⟨⟨r, rfl, _, _⟩, hs4, hg4⟩
          have U4 := hid (U3.out.call cwr hXB hs4 hg4)
          have f1 := U4.out.box.free 1
          have q1 := U4.out.box.cell 1
          have U5 : Hid (GrUp W0 WR c a len cap XB (q + 140) 5 (w4.setCell ⟨XB, 1, none⟩ (.int .i64 r))) := ⟨_, _, _, _, _, _, _, _, U4.out.set cwr hXB (k := 1) rfl, by omega, by simp, by omega⟩
          clear hs4 hg4 KN U3 U4
          go_wp2_with fail
          go_meet
          exact ⟨⟨_, rfl⟩, U5.out⟩
      case rest =>
      obtain ⟨⟨l8, rfl⟩, hU⟩ := hcut
      obtain ⟨W4, rfl⟩ : ∃ v, v = wc := ⟨_, rfl⟩
      clear U3 b0
      obtain ⟨p4, k4, m4, d4, a4, c4, x4, t4, hI4, hp4, hx4, ht4⟩ := hU
      have U4 := hid hI4
      clear hI4
      have KO := hid (one_all W0 W4 c a len cap p4 12 U4.out.src (by omega) (by omega) (by omega))
      go_wp2_with fail
      refine KO.out.mono ?_
      rintro e w5 ⟨⟨o12, rfl⟩, hs5, hg5⟩
      have U5 := hid (U4.out.call cwr hXB hs5 hg5)
      clear hs5 hg5 KO U4
      go_upto_if 82 with fail
      go_cut [] from 83 to 86 (fun wx => GrUp W0 WR c a len cap XB (q + 142) 5 wx)
      case first =>
        cases o12 with
        | false =>
          go_wp2_with fail
          go_meet
          exact ⟨_, _, _, _, _, _, _, _, U5.out, by omega, by omega, by omega⟩
        | true =>
          have KN := hid (n_all W0 w5 c a len cap (p4 + 1) (mm : Int) U5.out.src (by omega) (by omega) (by omega))
          go_wp2_with fail
          refine KN.out.mono ?_
          rintro e w6 ⟨⟨r, rfl, _, _⟩, hs6, hg6⟩
          have U6 := hid (U5.out.call cwr hXB hs6 hg6)
          have f1 := U6.out.box.free 1
          have q1 := U6.out.box.cell 1
          have U7 := hid (U6.out.set cwr hXB (k := 1) (v := .int .i64 r) rfl)
          clear hs6 hg6 KN U5 U6
          go_wp2_with fail
          go_meet
          exact ⟨_, _, _, _, _, _, _, _, U7.out, by omega, by omega, by omega⟩
      case rest =>
      obtain ⟨W7, rfl⟩ : ∃ v, v = wc := ⟨_, rfl⟩
      clear U5
      obtain ⟨p7, k7, m7, d7, a7, c7, x7, t7, hI7, hp7, hx7, ht7⟩ := hcut
      have U7 := hid hI7
      clear hI7
      have KO := hid (one_all W0 W7 c a len cap p7 40 U7.out.src (by omega) (by omega) (by omega))
      go_wp2_with fail
      refine KO.out.mono ?_
      rintro e w8 ⟨⟨o40, rfl⟩, hs8, hg8⟩
      have U8 := hid (U7.out.call cwr hXB hs8 hg8)
      clear hs8 hg8 KO U7
      go_upto_if 88 with fail
      go_cut [] from 89 to 121 (fun wx => GrUp W0 WR c a len cap XB (q + 150) 6 wx)
      case first =>
        cases o40 with
        | false =>
          go_wp2_with fail
          go_meet
          exact ⟨_, _, _, _, _, _, _, _, U8.out, by omega, by omega, by omega⟩
        | true =>
          have KN := hid (n_all W0 w8 c a len cap (p7 + 1) 4 U8.out.src (by omega) (by omega) (by omega))
          go_wp2_with fail
          refine KN.out.mono ?_
          rintro e w9 ⟨⟨r, rfl, hr0, hr1⟩, hs9, hg9⟩
          have U9 := hid (U8.out.call cwr hXB hs9 hg9)
          clear hs9 hg9 KN U8
          rcases (by omega : r = 0 ∨ r = 1 ∨ r = 2 ∨ r = 3) with rfl | rfl | rfl | rfl
          · have K2 := hid (n_all W0 w9 c a len cap (p7 + 1 + 1) 2 U9.out.src (by omega) (by omega) (by omega))
            go_wp2_with fail
            refine K2.out.mono ?_
            rintro e w10 ⟨⟨z, rfl, hz0, hz1⟩, hs10, hg10⟩
            have U10 := hid (U9.out.call cwr hXB hs10 hg10)
            have f0 := U10.out.box.free 0
            have q0 := U10.out.box.cell 0
            have U11 := fun v : Int => hid (U10.out.set cwr hXB (k := 0) (v := .int .i64 v) rfl)
            clear hs10 hg10 K2 U9 U10
            go_wp2_with fail
            go_meet
            exact ⟨_, _, _, _, _, _, _, _, (U11 _).out, by omega, by omega, by omega⟩
          · have K2 := hid (n_all W0 (w9.alloc (.cells #[.int .i64 (-1), .int .i64 (mm : Int)] 2)) c a len cap (p7 + 1 + 1) 2 (U9.out.src.alloc _) (by omega) (by omega) (by omega))
            have XL := U9.out.box.lt
            have cw9 := U9.out.src.lt
            go_wp2_with fail
            refine K2.out.mono ?_
            rintro e w10 ⟨⟨z, rfl, hz0, hz1⟩, hs10, hg10⟩
            obtain ⟨Z, rfl⟩ := Int.eq_ofNat_of_zero_le hz0
            obtain ⟨tv, htv⟩ := grTab mm Z (by omega)
            have ct := ((rowF2 (RowAt.new w9 2 #[.int .i64 (-1), .int .i64 (mm : Int)]) hg10 (by omega)).cell Z).trans htv
            have hg11 : w9.grownBy w10 (some c) := grown_trans (World.grownBy_alloc w9 _ _) hg10
            have U10 := hid (U9.out.call cwr hXB hs10 hg11)
            have f1 := U10.out.box.free 1
            have q1 := U10.out.box.cell 1
            have U11 := hid (U10.out.set cwr hXB (k := 1) (v := .int .i64 tv) rfl)
            clear hs10 hg10 hg11 K2 U9 U10 htv
            go_wp2_with fail
            go_meet
            exact ⟨_, _, _, _, _, _, _, _, U11.out, by omega, by omega, by omega⟩
          · have b3 := U9.out.box.cell 3
            have Z6 : WR.heap.size ≤ w9.heap.size := U9.out.gr.size
            go_upto_region 30 with fail
            go_wp2_with (first | (at_builtin; refine append_num2 WR.heap.size w9 rfl (.tmp 109) (.tmp 111) 27 rfl 2 .i64 8 Try.underlying27 Try.info64D (by decide) (.slice a7 x7.length c7) x7 (mm : Int) rfl U9.out.own Z6 rfl (by omega) ?_) | go_in)
            intro v8 w10 hO7 hg7
            obtain ⟨a8, c8, rfl⟩ := OwnNums.shp hO7
            have U10 : Hid (GrUp W0 WR c a len cap XB (q + 150) 6 _) := U9.out.appU cwr hXB hO7 hg7 (by omega) (by omega) (by omega)
            have B7 : RowAt w10 XB 42 _ := (hg7.block XB U9.out.box.lt (OwnNums.neG U9.out.own U9.out.box)).trans U9.out.box
            have f3 := B7.free 3
            have q3 := B7.cell 3
            clear hO7 hg7 B7 U9 b3
            go_wp2_with fail
            go_meet
            exact U10.out
          · have K2 := hid (n_all W0 w9 c a len cap (p7 + 1 + 1) 3 U9.out.src (by omega) (by omega) (by omega))
            go_wp2_with fail
            refine K2.out.mono ?_
            rintro e w10 ⟨⟨z, rfl, hz0, hz1⟩, hs10, hg10⟩
            obtain ⟨Z, rfl⟩ := Int.eq_ofNat_of_zero_le hz0
            have U10 := hid (U9.out.call cwr hXB hs10 hg10)
            obtain ⟨M, hM⟩ : ∃ M : Nat, M = 999 + Z := ⟨_, rfl⟩
            have zz : (999 : Int) + (Z : Int) = (M : Int) := by omega
            have M1 : M ≤ 1001 := by omega
            have hmk := mk_bytesD w10 M (by omega)
            obtain ⟨IN, hIN⟩ : ∃ I, I = intsD .u8 (List.replicate M 0) := ⟨_, rfl⟩
            obtain ⟨TT, hTT⟩ : ∃ I, I = strOfNums (List.replicate M 0) := ⟨_, rfl⟩
            have hTs : TT.size ≤ 1001 := by rw [hTT, strOfNums_size, List.length_replicate]; exact M1
            have hcv := conv_owned (w10.alloc (.cells (intsD .u8 (List.replicate M 0)) 5)) 22 5 9 Try.underlying22 Try.underlying5 Try.underlying9 (own_madeD w10 M (by omega))
            rw [← hIN] at hmk hcv
            rw [← hTT] at hcv
            have hgA : w10.grownBy (w10.alloc (.cells IN 5)) (some c) := World.grownBy_alloc w10 _ _
            have U11 := hid (U10.out.call cwr hXB (U10.out.src.alloc (.cells IN 5)) hgA)
            have f4 := U11.out.box.free 4
            have q4 := U11.out.box.cell 4
            have U12 := hid (U11.out.set cwr hXB (k := 4) (v := .string TT) rfl)
            clear hs10 hg10 K2 U9 U10 U11 hIN hTT hgA hM hz0 hz1
            go_wp2_with fail
            go_meet
            exact ⟨_, _, _, _, _, _, _, _, U12.out, by omega, by omega, by omega⟩
      case rest =>
      obtain ⟨W9, rfl⟩ : ∃ v, v = wc := ⟨_, rfl⟩
      clear U8
      obtain ⟨p9, k9, m9, d9, a9, c9, x9, t9, hI9, hp9, hx9, ht9⟩ := hcut
      have U9 := hid hI9
      clear hI9
      have j0 := U9.out.box.cell 0
      have j1 := U9.out.box.cell 1
      have j2 := U9.out.box.cell 2
      have j3 := U9.out.box.cell 3
      have j4 := U9.out.box.cell 4
      have hW9 : w.heap.size ≤ W9.heap.size := Nat.le_trans hgsz U9.out.gr.size
      have O9 : Hid (OwnGq W9 w.heap.size (.slice av i cv) L) := World.ownsRow.kept OO.out U9.out.gr (by
        cases hv : (Value.slice av i cv).ownBlock with
        | none => exact .inl rfl
        | some g => exact .inr (fun e => by have := (World.ownsRow.lt OO.out g hv).1; have := Option.some.inj e; omega))
      have LL := HL.out
      go_upto_region 33 with fail
      go_wp2_with (first | (at_builtin; refine append_gq w.heap.size W9 rfl (.tmp 122) (.tmp 124) rfl (.slice av i cv) L ⟨k9, m9, d9, x9, t9, a9, c9⟩ rfl O9.out hW9 rfl (by omega) ?_) | go_in)
      intro v8 w10 hO10 hg10
      obtain ⟨a10, c10, rfl⟩ := OwnGq.shp hO10
      have hB : ∀ g, (Value.slice av i cv).ownBlock = some g → w.heap.size ≤ g := fun g hg => (World.ownsRow.lt O9.out g hg).1
      have S10 := hid (U9.out.src.far hg10 (fun e => by have := hB c e.symm; omega) (fun g hg => by have := hB g hg; omega))
      have A10 : Hid (∀ x ∈ L ++ [(⟨k9, m9, d9, x9, t9, a9, c9⟩ : Gq)], GqOk w10 w.heap.size x) := by
        intro x hx
        rcases List.mem_append.1 hx with hx | hx
        · obtain ⟨e1, e2, e3⟩ := AA.out x hx
          exact ⟨e1, e2, OwnGq.keptN O9.out (OwnNums.kept e3 U9.out.gr (by omega)) hg10⟩
        · obtain rfl := List.mem_singleton.1 hx
          exact ⟨by show x9.length ≤ 9; omega, ht9, OwnGq.keptN O9.out (OwnNums.monoQ U9.out.own (by omega)) hg10⟩
      have G10 := hid (grown_ownQ OO.out GG.out U9.out.gr hg10 hB)
      have LA : Hid ((L ++ [(⟨k9, m9, d9, x9, t9, a9, c9⟩ : Gq)]).length = i + 1) := by show _ = _; rw [List.length_append, LL]; rfl
      rw [LA.out] at hO10
      have OO10 := hid hO10
      rw [LA.out]
      clear hO10 hg10 hB U9 O9 OO AA GG HL j0 j1 j2 j3 j4 SS
      go_wp2_with fail
      go_roundw
      case rel => exact ⟨i + 1, p9, l8, a10, c10, _, hlt, by go_num, rfl, rfl, LA.out, S10.out, by omega, OO10.out, A10.out, G10.out⟩
      case measure => simp [intOf]; omega
    · have hlt' : ¬ (i : Int) < (n : Int) := by omega
      have ei : i = n := by omega
      have HE := hid ei
      clear ei
      go_wp2
      go_ret
      exact ⟨av, cv, L, q, by rw [HE.out]; rfl, by rw [HL.out, HE.out], SS.out, by rw [← HE.out]; exact hq, by rw [← HE.out]; exact OO.out, AA.out, GG.out⟩
end Go.Proofs.Ytmhkelfmciepaaa
