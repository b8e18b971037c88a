import Derived.Test.YtmjolkagkeonfaaGreatDoorG11
import Derived.Deep.AppendLies
import Derived.RegionDies
import Derived.Test.YtmjolkagkeonfaaGreatDoorG10
import Derived.Defers
import Derived.Recover
import Derived.Laws.Pointers
namespace Go.Proofs.YtmjolkagkeonfaaGreatDoor
open Go.RowKit
set_option linter.unusedVariables false
/-! The program's line reader: a statement. -/
theorem OwnStrs.farX {w w' : World} {base x : Nat} {v : Value} {xs : List ByteArray} (h : OwnStrs w base v xs) (hg : w.grownBy w' (some x)) (hx : x < base) : OwnStrs w' base v xs :=
  h.keep fun g cs e hr => (hg.block g hr.lt fun q => by have := (h.row e).1; have := Option.some.inj q; omega).trans hr
theorem OwnCn.farX {w w' : World} {base x : Nat} {v : Value} {xs : List Cn} (h : OwnCn w base v xs) (hg : w.grownBy w' (some x)) (hx : x < base) : OwnCn w' base v xs :=
  h.keep fun g cs e hr => (hg.block g hr.lt fun q => by have := (h.row e).1; have := Option.some.inj q; omega).trans hr
theorem grown_setRow {w : World} {x : Nat} {c : Array Value} : w.grownBy (w.setRow x c) (some x) := ⟨rfl, rfl, rfl, by rw [setRow_size]; exact Nat.le_refl _, fun k hk hne => setRow_other w x k c (fun e => hne (by rw [e]))⟩
theorem step_append_cn (base : Nat) (w : World) {ops : Array Oper} {op : Oper} {a : Act} {K : Act → World → Prop} {Q : Exit → Act → World → Prop} {E : Prop} (hgd : op.guard = none) (s x : Operand)
    (ho : op.op = .call { callee := .builtin .append, args := #[s, x], argTypes := #[71, 71] })
    (v : Value) (L : List Cn) (n : Nat) (hn : L.length = n) (c : Cn) (hs : a.eval s = v) (hown : OwnCn w base v L) (hsz : base ≤ w.heap.size)
    (b : Nat) (hbox : RowAt w b 83 #[.int .i64 c.kd, .string c.tx, .int .i64 c.tm]) (hx : a.eval x = .slice (some ⟨b, 0, none⟩) 1 1) (hlen : n + 1 ≤ 1048576)
    (h : ∀ g cap w', OwnCn w' base (.slice (some ⟨g, 0, none⟩) (n + 1) cap) (L ++ [c]) → w.grownBy w' v.ownBlock → K (a.put op.dst (.slice (some ⟨g, 0, none⟩) (n + 1) cap)) w') :
    if Region.wanted op (yielded ops a.tmps) = true then Oper.wp Tryz.prog op a w K Q else E := by
  subst hn
  obtain ⟨i0, hi, hz0, hz1, hz2⟩ := info_parts Tryz.infoCn2
  refine step_append_lies _ hgd s x 71 ho base 83 i0 _ 3 32 Tryz.underlying71 hi hz0 hz1 hz2 rfl (by decide) v L.length (cnL L) hs hown ⟨b, 0, none⟩ 1 1 (cnL [c]) hx rfl ?_ ?_ (by decide) ?_ ?_ hsz w.heap.size rfl ?_
  · intro j u hj
    have hadd : (⟨b, 0, none⟩ : Addr).add j = ⟨b, j, none⟩ := by unfold Addr.add; split <;> simp_all
    rw [hadd, hbox.cell]
    match j, hj with
    | 0, hj => exact hj
    | 1, hj => exact hj
    | 2, hj => exact hj
  · intro u hu
    simp [cnL] at hu
    rcases hu with rfl | rfl | rfl <;> rfl
  · unfold maxLen; omega
  · omega
  · intro g cap w' h1 h2 _ _
    exact h g cap w' (by unfold OwnCn; rw [cnL_app, List.length_append]; exact h1) h2
theorem Rdr.far {W0 w w' : World} {b g x : Nat} {l : Int} {ws : List ByteArray} {k : Nat} (h : Rdr W0 w b g l ws k) (hg : w.grownBy w' (some x)) (hxb : x ≠ b) (hxg : x ≠ g) (hx : W0.heap.size ≤ x) : Rdr W0 w' b g l ws k := by
  obtain ⟨A, r1, r2⟩ := h.row
  refine ⟨h.bw.grown hg h.bw.size (fun y hy => by cases hy; exact hx), h.hb, h.bg, h.kn, h.sz, ⟨A, (hg.block _ r1.lt (fun e => hxb (Option.some.inj e).symm)).trans r1, r2⟩, (hg.block _ h.wd.lt (fun e => hxg (Option.some.inj e).symm)).trans h.wd⟩
/-- while a statement is taken: w0 is the world at its beginning -/
structure Tk (W0 w0 w : World) (b g : Nat) (l : Int) (ws : List ByteArray) (k : Nat) (cs : Array Value) : Prop where
  lr : Rdr W0 w b g l ws k
  gr : w0.grownBy w (some b)
  r0 : RowAt w w0.heap.size 73 #[.int .i64 0, .slice none 0 0, .slice none 0 0, .slice none 0 0, .slice none 0 0]
  r1 : RowAt w (w0.heap.size + 1) 73 cs
  lb : b < w0.heap.size ∧ g < w0.heap.size ∧ W0.heap.size ≤ w0.heap.size
theorem Tk.call {W0 w0 w w' : World} {b g : Nat} {l : Int} {ws : List ByteArray} {k k' : Nat} {cs : Array Value} (h : Tk W0 w0 w b g l ws k cs) (hL : Rdr W0 w' b g l ws k') (hg : w.grownBy w' (some b)) : Tk W0 w0 w' b g l ws k' cs := by
  have q := h.lb
  exact ⟨hL, grown_trans h.gr hg, (hg.block _ h.r0.lt (fun e => by have := Option.some.inj e; omega)).trans h.r0, (hg.block _ h.r1.lt (fun e => by have := Option.some.inj e; omega)).trans h.r1, q⟩
theorem Tk.below {W0 w0 w w' : World} {b g : Nat} {l : Int} {ws : List ByteArray} {k : Nat} {cs : Array Value} (h : Tk W0 w0 w b g l ws k cs) (hb : Below w.heap.size w w') : Tk W0 w0 w' b g l ws k cs := h.call (h.lr.below hb) (below_grown hb _)
theorem Tk.set {W0 w0 w : World} {b g : Nat} {l : Int} {ws : List ByteArray} {k : Nat} {cs : Array Value} (h : Tk W0 w0 w b g l ws k cs) (i : Nat) (v : Value) : Tk W0 w0 (w.setCell ⟨w0.heap.size + 1, i, none⟩ v) b g l ws k (cs.setIfInBounds i v) := by
  have q := h.lb
  exact ⟨h.lr.far (x := w0.heap.size + 1) grown_set (by omega) (by omega) (by omega), grown_own h.gr grown_set (base := w0.heap.size) (fun g e => by cases e; omega) (Nat.le_refl _), h.r0.other _ _ (by dsimp only; omega), h.r1.set i v, q⟩
/-- a row of another block grows -/
theorem Tk.far {W0 w0 w w' : World} {b g : Nat} {l : Int} {ws : List ByteArray} {k : Nat} {cs : Array Value} (h : Tk W0 w0 w b g l ws k cs) {r : Option Nat} (hg : w.grownBy w' r) (hr : ∀ x, r = some x → w0.heap.size + 2 ≤ x) : Tk W0 w0 w' b g l ws k cs := by
  have q := h.lb
  obtain ⟨A, r1, r2⟩ := h.lr.row
  refine ⟨⟨h.lr.bw.grown hg h.lr.bw.size (fun y hy => by have := hr y hy; omega), h.lr.hb, h.lr.bg, h.lr.kn, h.lr.sz, ⟨A, (hg.block _ r1.lt (fun e => by have := hr _ e.symm; omega)).trans r1, r2⟩, (hg.block _ h.lr.wd.lt (fun e => by have := hr _ e.symm; omega)).trans h.lr.wd⟩, grown_own h.gr hg (base := w0.heap.size) (fun g e => by have := hr _ e; omega) (Nat.le_refl _), (hg.block _ h.r0.lt (fun e => by have := hr _ e.symm; omega)).trans h.r0, (hg.block _ h.r1.lt (fun e => by have := hr _ e.symm; omega)).trans h.r1, q⟩
/-- the words that are left, told by the world -/
def lenAt (b : Nat) (w : World) : Nat := match w.cell? ⟨b, 1, none⟩ with | some (.slice _ n _) => n | _ => 0
theorem Rdr.len {W0 w : World} {b g : Nat} {l : Int} {ws : List ByteArray} {k : Nat} (h : Rdr W0 w b g l ws k) : lenAt b w = ws.length - k := by
  obtain ⟨A, r1, r2⟩ := h.row
  unfold lenAt
  rw [r1.cell 1]
  rfl
/-- three lists of texts -/
structure O3 (w : World) (x0 x1 x2 x3 : Nat) (v1 v2 v3 : Value) (S1 S2 S3 : List ByteArray) : Prop where
  o1 : OwnStrs w x0 v1 S1
  o2 : OwnStrs w x1 v2 S2
  o3 : OwnStrs w x2 v3 S3
  b1 : blt v1 x1
  b2 : blt v2 x2
  b3 : blt v3 x3
  le : x0 ≤ x1 ∧ x1 ≤ x2 ∧ x2 ≤ x3
theorem O3.far {w w' : World} {x0 x1 x2 x3 : Nat} {v1 v2 v3 : Value} {S1 S2 S3 : List ByteArray} (h : O3 w x0 x1 x2 x3 v1 v2 v3 S1 S2 S3) {r : Option Nat} (hg : w.grownBy w' r) (hr : ∀ x, r = some x → x < x0 ∨ x3 ≤ x) : O3 w' x0 x1 x2 x3 v1 v2 v3 S1 S2 S3 := by
  have q := h.le
  refine ⟨h.o1.keep fun g cs e k => (hg.block g k.lt fun z => ?_).trans k, h.o2.keep fun g cs e k => (hg.block g k.lt fun z => ?_).trans k, h.o3.keep fun g cs e k => (hg.block g k.lt fun z => ?_).trans k, h.b1, h.b2, h.b3, h.le⟩
  · have := hr g z.symm; have := (h.o1.row e).1; have := h.b1 g e; omega
  · have := hr g z.symm; have := (h.o2.row e).1; have := h.b2 g e; omega
  · have := hr g z.symm; have := (h.o3.row e).1; have := h.b3 g e; omega
theorem not_ln1 {ws : List ByteArray} (h : ¬ frmP ws) : ¬ lnP ws := fun q => h q.1
def TsO (W0 w : World) (b g : Nat) (l : Int) (ws : List ByteArray) (e : Ending) (w' : World) : Prop :=
  (∃ (s : St) (cs : List Cn), e = .returned (.agg #[.int .i64 s.ef, .slice s.wo.ad s.wo.n s.wo.cap, .slice s.wa.ad s.wa.n s.wa.cap, .slice s.wi.ad s.wi.n s.wi.cap, .slice s.cs.ad s.cs.n s.cs.cap]) ∧ frmP ws ∧ CdsO (ws.drop 7) cs ∧ PsAt w' w.heap.size w'.heap.size s ⟨efV (atB ws 0), splB 44 (atB ws 2), splB 44 (atB ws 4), splB 44 (atB ws 6), cs⟩ ∧ Rdr W0 w' b g l ws ws.length ∧ w.grownBy w' (some b))
  ∨ (ThrownAt e 3 l ∧ ¬ lnP ws ∧ Below W0.heap.size W0 w')
theorem cds_take {ws : List ByteArray} {j : Nat} {cs : List Cn} {c : Cn} (h : 7 + 2 * j + 1 < ws.length) (hc : CdsO ((ws.drop 7).take (2 * j)) cs) (hd : CdO (atB ws (7 + 2 * j)) (atB ws (7 + 2 * j + 1)) c) : CdsO ((ws.drop 7).take (2 * (j + 1))) (cs ++ [c]) := by
  have e : (ws.drop 7).take (2 * (j + 1)) = (ws.drop 7).take (2 * j) ++ [atB ws (7 + 2 * j), atB ws (7 + 2 * j + 1)] := by
    rw [show 2 * (j + 1) = 2 * j + 1 + 1 by omega, List.take_add_one, List.take_add_one, List.getElem?_drop, List.getElem?_drop, atB_get (by omega), atB_get (by omega)]
    simp [Nat.add_assoc]
  rw [e]
  exact cdsO_snoc hc hd
theorem cds_bad {ws : List ByteArray} {j : Nat} {cs : List Cn} (h : 7 + 2 * j < ws.length) (hc : CdsO ((ws.drop 7).take (2 * j)) cs) (hn : ¬ (7 + 2 * j + 1 < ws.length ∧ nmP (atB ws (7 + 2 * j)))) : ¬ lnP ws := by
  by_cases h1 : 7 + 2 * j + 1 < ws.length
  · intro q
    have hps := q.2.2.2.2.2
    unfold sS at hps
    dsimp only at hps
    rw [isP_all] at hps
    have e : ws.drop 7 = (ws.drop 7).take (2 * j) ++ atB ws (7 + 2 * j) :: atB ws (7 + 2 * j + 1) :: ws.drop (7 + 2 * j + 2) := by
      conv => lhs; rw [← List.take_append_drop (2 * j) (ws.drop 7)]
      rw [List.drop_drop]
      congr 1
      rw [List.drop_eq_getElem_cons (by omega), List.drop_eq_getElem_cons (by omega)]
      have e1 := atB_get (l := ws) (i := 7 + 2 * j) (by omega)
      have e2 := atB_get (l := ws) (i := 7 + 2 * j + 1) (by omega)
      rw [List.getElem?_eq_getElem (by omega)] at e1 e2
      rw [Option.some.inj e1, Option.some.inj e2]
    rw [e] at hps
    have hno : ¬ nmP (atB ws (7 + 2 * j)) := fun z => hn ⟨h1, z⟩
    exact cdsS_bad hc (cdS_no (fun z => hno (.inl z)) (fun z => hno (.inr (.inl z))) (fun z => hno (.inr (.inr (.inl z)))) (fun z => hno (.inr (.inr (.inr z))))) hps
  · exact not_ln1 fun z => by have := z.2.1; omega
set_option maxRecDepth 20000 in
set_option maxHeartbeats 16000000 in
theorem iTakeS (W0 : World) (hv : RdV W0) (b g : Nat) (l : Int) (ws : List ByteArray) (h1 : 0 < ws.length) (w : World) (h : Rdr W0 w b g l ws 0) :
    Calls Tryz.prog 74 #[.pointer (some ⟨b, 0, none⟩)] w fun e w' => TsO W0 w b g l ws e w' := by
  obtain ⟨W1, hW1⟩ : ∃ W, W = (w.alloc (.cells #[.int .i64 0, .slice none 0 0, .slice none 0 0, .slice none 0 0, .slice none 0 0] 73)).alloc (.cells #[.int .i64 0, .slice none 0 0, .slice none 0 0, .slice none 0 0, .slice none 0 0] 73) := ⟨_, rfl⟩
  have T1 : Hid (Tk W0 w W1 b g l ws 0 #[.int .i64 0, .slice none 0 0, .slice none 0 0, .slice none 0 0, .slice none 0 0]) := by
    have hb2 : Below w.heap.size w W1 := by rw [hW1]; exact ((Below.refl _ _).alloc (Nat.le_refl _) _).alloc (by rw [size_al]; omega) _
    obtain ⟨A, r1, _⟩ := h.row
    exact ⟨h.below hb2, below_grown hb2 _, by rw [hW1]; exact (RowAt.new _ _ _).alloc _, by rw [hW1]; exact RowAt.next _ _ _ (by rw [size_al]), r1.lt, h.wd.lt, h.bw.size⟩
  have HV := hid hv
  clear h hv
  have WX : Hid (w.heap.size + 2 ≤ W1.heap.size) := by rw [hW1, size_al, size_al]; exact Nat.le_refl _
  have K1 := hid (iTakeW W0 b g l ws 0 h1 W1 T1.out.lr)
  go_enter Tryz.func74, Tryz.ntmps74
  go_wp2_with fail
  rw [← hW1]
  clear hW1
  refine K1.out.mono ?_
  rintro e w2 ⟨rfl, hL2, hg2⟩
  have T2 := hid (T1.out.call hL2 hg2)
  have Z2 : Hid (w.heap.size + 2 ≤ w2.heap.size) := Nat.le_trans WX.out hg2.size
  have KE := hid (iEffO (atB ws 0) w2)
  clear hL2 hg2 K1 T1 WX
  obtain ⟨EF, hEF⟩ : ∃ x, x = efV (atB ws 0) := ⟨_, rfl⟩
  rw [← hEF] at KE
  have HEF := hid hEF
  clear hEF
  go_wp2_with fail
  refine KE.out.mono ?_
  rintro e w3 ⟨rfl, hw3⟩
  obtain rfl := hw3.symm
  clear hw3 KE
  obtain ⟨W3, hW3⟩ : ∃ W, W = w2.setCell ⟨w.heap.size + 1, 0, none⟩ (.int .i64 EF) := ⟨_, rfl⟩
  have T3 : Hid (Tk W0 w W3 b g l ws 1 #[.int .i64 EF, .slice none 0 0, .slice none 0 0, .slice none 0 0, .slice none 0 0]) := by rw [hW3]; exact T2.out.set 0 _
  have Z3 : Hid (w.heap.size + 2 ≤ W3.heap.size) := by rw [hW3]; exact Nat.le_trans Z2.out (grown_set (w := w2) (c := w.heap.size + 1) (u := .int .i64 EF) (o := 0)).size
  have x0 := T2.out.r1.cell 0
  have y0 := T2.out.r1.free 0
  clear T2 Z2
  go_upto_region 3 with fail
  rw [← hW3]
  clear hW3 x0 y0
  by_cases q1 : 1 + 1 < ws.length ∧ isW (atB ws 1) kWho
  case neg =>
    have NL : Hid (¬ lnP ws) := not_ln1 fun z => q1 ⟨by have := z.1; omega, z.2.2.1⟩
    have K := hid (iTakeL_no W0 HV.out b g l ws 1 ⟨#[119, 104, 111]⟩ W3 T3.out.lr q1)
    clear q1
    go_wp2_with fail
    refine K.out.mono ?_
    rintro e w4 ⟨hT, hB⟩
    unfold ThrownAt at hT
    subst hT
    have B := hid hB
    clear hB
    go_wp2
    exact ⟨rfl, .inr ⟨rfl, NL.out, B.out⟩⟩
  have K := hid (iTakeL W0 HV.out b g l ws 1 ⟨#[119, 104, 111]⟩ W3 T3.out.lr q1.1 q1.2)
  have Q1 := hid q1
  clear q1
  go_wp2_with fail
  refine K.out.mono ?_
  rintro e w4 ⟨v1, rfl, hO, hL, hg⟩
  obtain ⟨a1, c1, rfl⟩ := hO.slice
  obtain ⟨S1, hS1⟩ : ∃ x, x = splB 44 (atB ws 2) := ⟨_, rfl⟩
  rw [← hS1] at hO ⊢
  obtain ⟨n1, hn1⟩ : ∃ x, x = S1.length := ⟨_, rfl⟩
  rw [← hn1] at hO ⊢
  have O1 := hid hO
  have T4 := hid (T3.out.call hL hg)
  have G4 : Hid (W3.heap.size ≤ w4.heap.size) := hg.size
  have B1 : Hid (blt (.slice a1 n1 c1) w4.heap.size) := fun g' e => (O1.out.row e).2.1
  have HS1 := hid hS1
  have HN1 := hid hn1
  clear hO hL hg K T3 hS1 hn1
  obtain ⟨X0, hX0⟩ : ∃ x, x = W3.heap.size := ⟨_, rfl⟩
  rw [← hX0] at O1 G4 Z3
  clear hX0
  obtain ⟨W4, hW4⟩ : ∃ W, W = w4.setCell ⟨w.heap.size + 1, 1, none⟩ (.slice a1 n1 c1) := ⟨_, rfl⟩
  have g4 : w4.grownBy W4 (some (w.heap.size + 1)) := by rw [hW4]; exact grown_set
  have T5 : Hid (Tk W0 w W4 b g l ws 3 #[.int .i64 EF, .slice a1 n1 c1, .slice none 0 0, .slice none 0 0, .slice none 0 0]) := by rw [hW4]; exact T4.out.set 1 _
  have Z4 : Hid (w4.heap.size = W4.heap.size) := by show _ = _; rw [hW4]; simp
  have P1 : Hid (OwnStrs W4 X0 (.slice a1 n1 c1) S1) := O1.out.farX g4 (by have := Z3.out; omega)
  have x0 := T4.out.r1.cell 1
  have y0 := T4.out.r1.free 1
  rw [Z4.out] at B1 G4
  clear T4 O1 g4 Z4
  go_upto_region 4 with fail
  rw [← hW4]
  clear hW4 x0 y0
  by_cases q2 : 3 + 1 < ws.length ∧ isW (atB ws 3) kDo
  case neg =>
    have NL : Hid (¬ lnP ws) := not_ln1 fun z => q2 ⟨by have := z.1; omega, z.2.2.2.1⟩
    have K := hid (iTakeL_no W0 HV.out b g l ws 3 ⟨#[100, 111]⟩ W4 T5.out.lr q2)
    clear q2
    go_wp2_with fail
    refine K.out.mono ?_
    rintro e w5 ⟨hT, hB⟩
    unfold ThrownAt at hT
    subst hT
    have B := hid hB
    clear hB
    go_wp2
    exact ⟨rfl, .inr ⟨rfl, NL.out, B.out⟩⟩
  have K := hid (iTakeL W0 HV.out b g l ws 3 ⟨#[100, 111]⟩ W4 T5.out.lr q2.1 q2.2)
  have Q2 := hid q2
  clear q2
  go_wp2_with fail
  refine K.out.mono ?_
  rintro e w5 ⟨v2, rfl, hO, hL, hg⟩
  obtain ⟨a2, c2, rfl⟩ := hO.slice
  obtain ⟨S2, hS2⟩ : ∃ x, x = splB 44 (atB ws 4) := ⟨_, rfl⟩
  rw [← hS2] at hO ⊢
  obtain ⟨n2, hn2⟩ : ∃ x, x = S2.length := ⟨_, rfl⟩
  rw [← hn2] at hO ⊢
  have O2 := hid hO
  have T6 := hid (T5.out.call hL hg)
  have G5 : Hid (W4.heap.size ≤ w5.heap.size) := hg.size
  have B2 : Hid (blt (.slice a2 n2 c2) w5.heap.size) := fun g' e => (O2.out.row e).2.1
  have P1' : Hid (OwnStrs w5 X0 (.slice a1 n1 c1) S1) := P1.out.farX hg (by have := Z3.out; have := T6.out.lb; omega)
  have HS2 := hid hS2
  have HN2 := hid hn2
  clear hO hL hg K T5 hS2 hn2 P1
  obtain ⟨X1, hX1⟩ : ∃ x, x = W4.heap.size := ⟨_, rfl⟩
  rw [← hX1] at O2 G5 G4 B1
  clear hX1
  obtain ⟨W5, hW5⟩ : ∃ W, W = w5.setCell ⟨w.heap.size + 1, 2, none⟩ (.slice a2 n2 c2) := ⟨_, rfl⟩
  have g5 : w5.grownBy W5 (some (w.heap.size + 1)) := by rw [hW5]; exact grown_set
  have T7 : Hid (Tk W0 w W5 b g l ws 5 #[.int .i64 EF, .slice a1 n1 c1, .slice a2 n2 c2, .slice none 0 0, .slice none 0 0]) := by rw [hW5]; exact T6.out.set 2 _
  have Z5 : Hid (w5.heap.size = W5.heap.size) := by show _ = _; rw [hW5]; simp
  have P1 : Hid (OwnStrs W5 X0 (.slice a1 n1 c1) S1) := P1'.out.farX g5 (by have := Z3.out; omega)
  have P2 : Hid (OwnStrs W5 X1 (.slice a2 n2 c2) S2) := O2.out.farX g5 (by have := Z3.out; have := G4.out; omega)
  have x0 := T6.out.r1.cell 2
  have y0 := T6.out.r1.free 2
  rw [Z5.out] at B2 G5
  clear T6 O2 g5 Z5 P1'
  go_upto_region 5 with fail
  rw [← hW5]
  clear hW5 x0 y0
  by_cases q3 : 5 + 1 < ws.length ∧ isW (atB ws 5) kOn
  case neg =>
    have NL : Hid (¬ lnP ws) := not_ln1 fun z => q3 ⟨by have := z.1; omega, z.2.2.2.2⟩
    have K := hid (iTakeL_no W0 HV.out b g l ws 5 ⟨#[111, 110]⟩ W5 T7.out.lr q3)
    clear q3
    go_wp2_with fail
    refine K.out.mono ?_
    rintro e w6 ⟨hT, hB⟩
    unfold ThrownAt at hT
    subst hT
    have B := hid hB
    clear hB
    go_wp2
    exact ⟨rfl, .inr ⟨rfl, NL.out, B.out⟩⟩
  have K := hid (iTakeL W0 HV.out b g l ws 5 ⟨#[111, 110]⟩ W5 T7.out.lr q3.1 q3.2)
  have Q3 := hid q3
  have FR : Hid (ws.length % 2 = 1 → frmP ws) := fun hh => ⟨by have := q3.1; omega, hh, Q1.out.2, Q2.out.2, q3.2⟩
  have H7 : Hid (7 ≤ ws.length) := by have := q3.1; show 7 ≤ _; omega
  clear q3
  go_wp2_with fail
  refine K.out.mono ?_
  rintro e w6 ⟨v3, rfl, hO, hL, hg⟩
  obtain ⟨a3, c3, rfl⟩ := hO.slice
  obtain ⟨S3, hS3⟩ : ∃ x, x = splB 44 (atB ws 6) := ⟨_, rfl⟩
  rw [← hS3] at hO ⊢
  obtain ⟨n3, hn3⟩ : ∃ x, x = S3.length := ⟨_, rfl⟩
  rw [← hn3] at hO ⊢
  have O4 := hid hO
  have T8 := hid (T7.out.call hL hg)
  have G6 : Hid (W5.heap.size ≤ w6.heap.size) := hg.size
  have B3 : Hid (blt (.slice a3 n3 c3) w6.heap.size) := fun g' e => (O4.out.row e).2.1
  have P1' : Hid (OwnStrs w6 X0 (.slice a1 n1 c1) S1) := P1.out.farX hg (by have := Z3.out; have := T8.out.lb; omega)
  have P2' : Hid (OwnStrs w6 X1 (.slice a2 n2 c2) S2) := P2.out.farX hg (by have := Z3.out; have := G4.out; have := T8.out.lb; omega)
  have HS3 := hid hS3
  have HN3 := hid hn3
  clear hO hL hg K T7 hS3 hn3 P1 P2
  obtain ⟨X2, hX2⟩ : ∃ x, x = W5.heap.size := ⟨_, rfl⟩
  rw [← hX2] at O4 G6 G5 B2
  clear hX2
  obtain ⟨W6, hW6⟩ : ∃ W, W = w6.setCell ⟨w.heap.size + 1, 3, none⟩ (.slice a3 n3 c3) := ⟨_, rfl⟩
  have g6 : w6.grownBy W6 (some (w.heap.size + 1)) := by rw [hW6]; exact grown_set
  have T9 : Hid (Tk W0 w W6 b g l ws 7 #[.int .i64 EF, .slice a1 n1 c1, .slice a2 n2 c2, .slice a3 n3 c3, .slice none 0 0]) := by rw [hW6]; exact T8.out.set 3 _
  have Z6 : Hid (w6.heap.size = W6.heap.size) := by show _ = _; rw [hW6]; simp
  have x0 := T8.out.r1.cell 3
  have y0 := T8.out.r1.free 3
  rw [Z6.out] at B3 G6
  have OO : Hid (O3 W6 X0 X1 X2 W6.heap.size (.slice a1 n1 c1) (.slice a2 n2 c2) (.slice a3 n3 c3) S1 S2 S3) := ⟨P1'.out.farX g6 (by have := Z3.out; omega), P2'.out.farX g6 (by have := Z3.out; have := G4.out; omega), O4.out.farX g6 (by have := Z3.out; have := G4.out; have := G5.out; omega), B1.out, B2.out, B3.out, G4.out, G5.out, G6.out⟩
  clear T8 O4 g6 Z6 P1' P2' B1 B2 B3
  go_upto_region 6 with fail
  rw [← hW6]
  clear hW6 x0 y0
  have ZX : Hid (w.heap.size + 2 ≤ X0) := Z3.out
  obtain ⟨X3, hX3⟩ : ∃ x, x = W6.heap.size := ⟨_, rfl⟩
  rw [← hX3] at OO
  have X3le : Hid (X3 ≤ W6.heap.size) := by rw [hX3]; exact Nat.le_refl _
  clear hX3
  have ZX3 : Hid (w.heap.size + 2 ≤ X3) := by have := OO.out.le; have := ZX.out; show _ ≤ _; omega
  clear Q1 Q2 Q3 Z3 G4 G5 G6
  go_loopw [] (fun wr => ∃ (j : Nat) (a4 : Option Addr) (c4 : Nat) (cs : List Cn), cs.length = j ∧ 7 + 2 * j ≤ ws.length ∧ CdsO ((ws.drop 7).take (2 * j)) cs ∧ Tk W0 w wr b g l ws (7 + 2 * j) #[.int .i64 EF, .slice a1 n1 c1, .slice a2 n2 c2, .slice a3 n3 c3, .slice a4 j c4] ∧ OwnCn wr X3 (.slice a4 j c4) cs ∧ O3 wr X0 X1 X2 X3 (.slice a1 n1 c1) (.slice a2 n2 c2) (.slice a3 n3 c3) S1 S2 S3 ∧ X3 ≤ wr.heap.size) (fun wr => lenAt b wr)
  case atStart => exact ⟨0, none, 0, [], rfl, H7.out, by simp [CdsO], T9.out, OwnCn.nil _ _, OO.out, X3le.out⟩
  case round =>
    obtain ⟨j, a4, c4, cs, hj, hjl, hc, hT, hO, h3, hx3⟩ := hrel
    have T := hid hT
    have O := hid hO
    have OX := hid h3
    have HC := hid hc
    have HJ := hid hj
    have HX := hid hx3
    have LEN := hid hT.lr.len
    obtain ⟨A, r1, r2⟩ := hT.lr.row
    have cb := r1.cell 1
    clear r1 r2 hT hO h3 hc hj hx3 T9 OO X3le
    by_cases hlt : 7 + 2 * j < ws.length
    · obtain ⟨m, hm⟩ : ∃ m, ws.length - (7 + 2 * j) = m + 1 := ⟨ws.length - (7 + 2 * j) - 1, by omega⟩
      rw [hm] at cb
      have hsz := T.out.lr.sz.1
      have HM := hid hm
      have HLT := hid hlt
      clear hm
      have d0 : (0 : Int) < (m : Int) + 1 := by omega
      go_upto_region 7 with fail
      by_cases q : 7 + 2 * j + 1 < ws.length ∧ nmP (atB ws (7 + 2 * j))
      · have HQ := hid q
        have KC : ∀ wx, Rdr W0 wx b g l ws (7 + 2 * j) → _ := fun wx hx => hid (iTakeC W0 HV.out b g l ws (7 + 2 * j) wx hx HQ.out.1 HQ.out.2)
        have c4' := T.out.r1.cell 4
        clear q cb
        go_region_law (first | (go_simp; go_at_call 118; refine (KC _ (by first | exact T.out.lr | exact T.out.lr.drew)).out.mono ?_; rintro e w7 ⟨c, rfl, hc7, hL7, hg7'⟩; have g7 : Hid (wr.grownBy w7 (some b)) := (by first | exact hg7' | exact grown_trans (below_grown (Below.refl _ _).drew _) hg7'); have T7 := hid (T.out.call hL7 g7.out); have C7 := hid hc7; have d4 := T7.out.r1.cell 4; have T8 := hid (T7.out.below ((Below.refl _ _).alloc (Nat.le_refl _) (.cells #[.int .i64 c.kd, .string c.tx, .int .i64 c.tm] 83))); have e4 := T8.out.r1.cell 4; clear hL7 hg7' hc7; dsimp only) | (refine step_append_cn X3 _ (by rfl) _ _ (by rfl) (.slice a4 j c4) cs j HJ.out c (by rfl) (by first | exact World.ownsRow.alloc (O.out.farX g7.out (by have := T.out.lb; have := ZX3.out; omega)) _ | exact World.ownsRow.drew (World.ownsRow.alloc (O.out.farX g7.out (by have := T.out.lb; have := ZX3.out; omega)) _)) (by have h1 := HX.out; have h2 := g7.out.size; first | (simp; omega) | omega) w7.heap.size (by first | exact RowAt.new _ _ _ | exact (RowAt.new _ _ _).drew) (by rfl) (by omega) ?_; intro ga ca wa hOa hga; have GA : Hid (w7.grownBy wa (Value.slice a4 j c4).ownBlock) := (by first | exact grown_trans (World.grownBy_alloc _ _ _) hga | exact grown_trans (World.grownBy_alloc _ _ _) (grown_trans (below_grown (Below.refl _ _).drew _) hga)); have OA := hid hOa; have TA : Hid (Tk W0 w wa b g l ws (7 + 2 * j + 2) #[.int .i64 EF, .slice a1 n1 c1, .slice a2 n2 c2, .slice a3 n3 c3, .slice a4 j c4]) := (T7.out.far GA.out (fun x hx => by have := (O.out.row hx).1; have := ZX3.out; omega)); have y1 := TA.out.r1.cell 4; have y2 := TA.out.r1.free 4; clear hOa hga; dsimp only))
        all_goals go_wp2
        all_goals
          have TZ := hid (TA.out.set 4 (.slice (some ⟨ga, 0, none⟩) (j + 1) ca))
          have OZ := hid (OA.out.farX (grown_set (c := w.heap.size + 1) (o := 4) (u := .slice (some ⟨ga, 0, none⟩) (j + 1) ca)) (by have := ZX3.out; omega))
          have XZ := hid (((OX.out.far g7.out (fun x hx => by cases hx; have := T.out.lb; have := ZX.out; omega)).far GA.out (fun x hx => .inr (O.out.row hx).1)).far (grown_set (c := w.heap.size + 1) (o := 4) (u := .slice (some ⟨ga, 0, none⟩) (j + 1) ca)) (fun x hx => by cases hx; have := ZX.out; omega))
          have SZ : Hid (X3 ≤ (wa.setCell ⟨w.heap.size + 1, 4, none⟩ (.slice (some ⟨ga, 0, none⟩) (j + 1) ca)).heap.size) := by
            have h1 := HX.out; have h2 := g7.out.size; have h3 := GA.out.size; show _ ≤ _; simp; omega
          have LL := hid TZ.out.lr.len
          go_roundw
          case rel => exact ⟨j + 1, some ⟨ga, 0, none⟩, ca, cs ++ [c], by have := HJ.out; simp; omega, by have := HQ.out.1; omega, cds_take HQ.out.1 HC.out C7.out, TZ.out, OZ.out, XZ.out, SZ.out⟩
          case measure => rw [LL.out, LEN.out]; have := HLT.out; omega
      · have NL : Hid (¬ lnP ws) := cds_bad hlt HC.out q
        have KN : ∀ wx, Rdr W0 wx b g l ws (7 + 2 * j) → _ := fun wx hx => hid (iTakeC_no W0 HV.out b g l ws (7 + 2 * j) wx hx q)
        have c4' := T.out.r1.cell 4
        clear q cb
        go_region_dies
        all_goals go_at_call 118
        all_goals refine (KN _ (by first | exact T.out.lr | exact T.out.lr.drew)).out.mono ?_
        all_goals rintro e w7 ⟨hT7, hB7⟩
        all_goals unfold ThrownAt at hT7
        all_goals subst hT7
        all_goals exact ⟨rfl, .inr ⟨rfl, NL.out, hB7⟩⟩
    · have e : 7 + 2 * j = ws.length := by omega
      rw [show ws.length - (7 + 2 * j) = 0 by omega] at cb
      have x0 := T.out.r1.cell 0
      have x1 := T.out.r1.cell 1
      have x2 := T.out.r1.cell 2
      have x3 := T.out.r1.cell 3
      have x4 := T.out.r1.cell 4
      have HE := hid e
      have hlb := T.out.lb
      have R0 := hid T.out.r0
      have FIN : Hid (Rdr W0 (wr.setRow w.heap.size #[.int .i64 EF, .slice a1 n1 c1, .slice a2 n2 c2, .slice a3 n3 c3, .slice a4 j c4]) b g l ws ws.length ∧ w.grownBy (wr.setRow w.heap.size #[.int .i64 EF, .slice a1 n1 c1, .slice a2 n2 c2, .slice a3 n3 c3, .slice a4 j c4]) (some b) ∧ PsAt (wr.setRow w.heap.size #[.int .i64 EF, .slice a1 n1 c1, .slice a2 n2 c2, .slice a3 n3 c3, .slice a4 j c4]) w.heap.size (wr.setRow w.heap.size #[.int .i64 EF, .slice a1 n1 c1, .slice a2 n2 c2, .slice a3 n3 c3, .slice a4 j c4]).heap.size ⟨EF, ⟨a1, n1, c1, atB S1⟩, ⟨a2, n2, c2, atB S2⟩, ⟨a3, n3, c3, atB S3⟩, ⟨a4, j, c4, atC cs⟩⟩ ⟨EF, S1, S2, S3, cs⟩) := by
        have zx := ZX.out
        have zx3 := ZX3.out
        have gs : wr.grownBy (wr.setRow w.heap.size #[.int .i64 EF, .slice a1 n1 c1, .slice a2 n2 c2, .slice a3 n3 c3, .slice a4 j c4]) (some w.heap.size) := grown_setRow
        have o3 := OX.out.far gs (fun x hx => by cases hx; omega)
        have oc := O.out.farX gs (by omega)
        have lr := T.out.lr.far gs (by omega) (by omega) (by omega)
        rw [HE.out] at lr
        have le := o3.le
        refine ⟨lr, grown_own T.out.gr gs (base := w.heap.size) (fun g e => by cases e; exact Nat.le_refl _) (Nat.le_refl _), rfl, ⟨X1, X2, X3, by omega, le.2.1, le.2.2, by rw [setRow_size]; exact HX.out, ⟨o3.o1.mono (by omega), o3.b1⟩, ⟨o3.o2, o3.b2⟩, ⟨o3.o3, o3.b3⟩, oc, fun g' e' => (oc.row e').2.1⟩, rfl, rfl, rfl, rfl⟩
      have FC : Hid (CdsO (ws.drop 7) cs) := by
        have := HC.out
        rw [List.take_of_length_le (by rw [List.length_drop]; omega)] at this
        exact this
      have HF : Hid (frmP ws) := FR.out (by omega)
      clear e hlb T O OX
      go_wp2_with (refine wpList_store_row rfl 73 (.tmp 2) (.tmp 30) rfl w.heap.size #[.int .i64 EF, .slice a1 n1 c1, .slice a2 n2 c2, .slice a3 n3 c3, .slice a4 j c4] rfl rfl _ _ R0.out (by kernel_rfl) rfl (by simp [Value.oneCell']) ?_)
      refine bodyPost_ret (v := .agg #[.int .i64 EF, .slice a1 n1 c1, .slice a2 n2 c2, .slice a3 n3 c3, .slice a4 j c4]) ?_ rfl (.inl ⟨⟨EF, ⟨a1, n1, c1, atB S1⟩, ⟨a2, n2, c2, atB S2⟩, ⟨a3, n3, c3, atB S3⟩, ⟨a4, j, c4, atC cs⟩⟩, cs, rfl, HF.out, FC.out, ?_, FIN.out.1, FIN.out.2.1⟩)
      · exact results_cell_row Tryz.results74 _ _ w.heap.size _ _ _ _ rfl (R0.out.setRow _) Tryz.underlying73 rfl (by kernel_rfl)
      · rw [← HEF.out, ← HS1.out, ← HS2.out, ← HS3.out]
        exact FIN.out.2.2
end Go.Proofs.YtmjolkagkeonfaaGreatDoor
namespace Go.Proofs.YtmjolkagkeonfaaGreatDoor
open Go.RowKit
/-! The program's checkStatement, checkStatements: they throw. -/
/-- a fault thrown -/
def Thrown (e : Ending) : Prop := ∃ c l : Int, ¬ c = 0 ∧ e = .panicked [{ v := .iface 86 (.agg #[.int .i64 c, .int .i64 l]), recovered := false }]
set_option maxRecDepth 20000 in
set_option maxHeartbeats 4000000 in
theorem iChk_ok (s : St) (hs : StB s 1048576) (l : Int) (i : Nat) (hp : stP s) (hi : i < 50) (hn : s.cs.n ≤ 10) (w : World) (h : StIn w s) :
    Calls Tryz.prog 69 #[.agg #[.int .i64 s.ef, .slice s.wo.ad s.wo.n s.wo.cap, .slice s.wa.ad s.wa.n s.wa.cap, .slice s.wi.ad s.wi.n s.wi.cap, .slice s.cs.ad s.cs.n s.cs.cap], .int .i64 l, .int .i64 (i : Int)] w fun e w' => e = .returned (.tuple #[]) ∧ Below w.heap.size w w' := by
  have B0 : Hid (Below w.heap.size w (w.alloc (.cells #[.int .i64 s.ef, .slice s.wo.ad s.wo.n s.wo.cap, .slice s.wa.ad s.wa.n s.wa.cap, .slice s.wi.ad s.wi.n s.wi.cap, .slice s.cs.ad s.cs.n s.cs.cap] 73))) := balCn (Below.refl _ _) _
  have K := hid (iStF s hs _ (h.below B0.out))
  rw [pb_t hp] at K
  obtain ⟨W0, hW0⟩ : ∃ W, W = w.alloc (.cells #[.int .i64 s.ef, .slice s.wo.ad s.wo.n s.wo.cap, .slice s.wa.ad s.wa.n s.wa.cap, .slice s.wi.ad s.wi.n s.wi.cap, .slice s.cs.ad s.cs.n s.cs.cap] 73) := ⟨_, rfl⟩
  have A0 : Hid (RowAt W0 w.heap.size 73 #[.int .i64 s.ef, .slice s.wo.ad s.wo.n s.wo.cap, .slice s.wa.ad s.wa.n s.wa.cap, .slice s.wi.ad s.wi.n s.wi.cap, .slice s.cs.ad s.cs.n s.cs.cap]) := by rw [hW0]; exact RowAt.new _ _ _
  rw [← hW0] at B0 K
  clear hp hs h
  obtain ⟨f, ⟨a1, n1, c1, t1⟩, ⟨a2, n2, c2, t2⟩, ⟨a3, n3, c3, t3⟩, ⟨a4, n4, c4, o4⟩⟩ := s
  dsimp only at B0 K hW0 A0 hn ⊢
  go_enter Tryz.func69, Tryz.ntmps69
  go_wp2_with fail
  rw [← hW0]
  clear hW0
  refine K.out.mono ?_
  rintro e w2 ⟨rfl, hb2⟩
  have x4 := (hb2.cell (p := ⟨w.heap.size, 4, none⟩) A0.out.lt).trans (A0.out.cell 4)
  have B2 := hid (B0.out.trans (hb2.mono B0.out.size))
  clear hb2 A0 B0 K
  have d1 : ¬ (50 : Int) ≤ (i : Int) := by omega
  have d2 : ¬ (10 : Int) < (n4 : Int) := by omega
  go_wp2
  go_end0
  exact ⟨rfl, B2.out⟩
set_option maxRecDepth 20000 in
set_option maxHeartbeats 4000000 in
theorem iChk_no (s : St) (hs : StB s 1048576) (l : Int) (i : Nat) (hi0 : i ≤ 1048576) (hp : ¬ (stP s ∧ i < 50 ∧ s.cs.n ≤ 10)) (w : World) (h : StIn w s) :
    Calls Tryz.prog 69 #[.agg #[.int .i64 s.ef, .slice s.wo.ad s.wo.n s.wo.cap, .slice s.wa.ad s.wa.n s.wa.cap, .slice s.wi.ad s.wi.n s.wi.cap, .slice s.cs.ad s.cs.n s.cs.cap], .int .i64 l, .int .i64 (i : Int)] w fun e w' => Thrown e ∧ Below w.heap.size w w' := by
  have B0 : Hid (Below w.heap.size w (w.alloc (.cells #[.int .i64 s.ef, .slice s.wo.ad s.wo.n s.wo.cap, .slice s.wa.ad s.wa.n s.wa.cap, .slice s.wi.ad s.wi.n s.wi.cap, .slice s.cs.ad s.cs.n s.cs.cap] 73))) := balCn (Below.refl _ _) _
  have K := hid (iStF s hs _ (h.below B0.out))
  obtain ⟨W0, hW0⟩ : ∃ W, W = w.alloc (.cells #[.int .i64 s.ef, .slice s.wo.ad s.wo.n s.wo.cap, .slice s.wa.ad s.wa.n s.wa.cap, .slice s.wi.ad s.wi.n s.wi.cap, .slice s.cs.ad s.cs.n s.cs.cap] 73) := ⟨_, rfl⟩
  have A0 : Hid (RowAt W0 w.heap.size 73 #[.int .i64 s.ef, .slice s.wo.ad s.wo.n s.wo.cap, .slice s.wa.ad s.wa.n s.wa.cap, .slice s.wi.ad s.wi.n s.wi.cap, .slice s.cs.ad s.cs.n s.cs.cap]) := by rw [hW0]; exact RowAt.new _ _ _
  rw [← hW0] at B0 K
  have hn : s.cs.n ≤ 1048576 := hs.cs.1
  clear hs h
  by_cases q : stP s
  · rw [pb_t q] at K
    have hq : ¬ (i < 50 ∧ s.cs.n ≤ 10) := fun hh => hp ⟨q, hh⟩
    clear hp q
    obtain ⟨f, ⟨a1, n1, c1, t1⟩, ⟨a2, n2, c2, t2⟩, ⟨a3, n3, c3, t3⟩, ⟨a4, n4, c4, o4⟩⟩ := s
    dsimp only at B0 K hW0 A0 hn hq ⊢
    go_enter Tryz.func69, Tryz.ntmps69
    go_wp2_with fail
    rw [← hW0]
    clear hW0
    refine K.out.mono ?_
    rintro e w2 ⟨rfl, hb2⟩
    have x4 := (hb2.cell (p := ⟨w.heap.size, 4, none⟩) A0.out.lt).trans (A0.out.cell 4)
    have B2 := hid (B0.out.trans (hb2.mono B0.out.size))
    clear hb2 A0 B0 K
    by_cases q1 : 50 ≤ i
    · have d1 : (50 : Int) ≤ (i : Int) := by omega
      go_wp2
      exact ⟨rfl, ⟨4, l, by decide, rfl⟩, B2.out⟩
    · have d1 : ¬ (50 : Int) ≤ (i : Int) := by omega
      have d2 : (10 : Int) < (n4 : Int) := by omega
      go_wp2
      exact ⟨rfl, ⟨4, l, by decide, rfl⟩, B2.out⟩
  · rw [pb_f q] at K
    clear hp q
    obtain ⟨f, ⟨a1, n1, c1, t1⟩, ⟨a2, n2, c2, t2⟩, ⟨a3, n3, c3, t3⟩, ⟨a4, n4, c4, o4⟩⟩ := s
    dsimp only at B0 K hW0 A0 hn ⊢
    go_enter Tryz.func69, Tryz.ntmps69
    go_wp2_with fail
    rw [← hW0]
    clear hW0
    refine K.out.mono ?_
    rintro e w2 ⟨rfl, hb2⟩
    have B2 := hid (B0.out.trans (hb2.mono B0.out.size))
    clear hb2 A0 B0 K
    go_wp2
    exact ⟨rfl, ⟨3, l, by decide, rfl⟩, B2.out⟩
theorem Thrown.ex {e : Ending} (h : Thrown e) : ∃ c l : Int, ¬ c = 0 ∧ e = .panicked [{ v := .iface 86 (.agg #[.int .i64 c, .int .i64 l]), recovered := false }] := h
set_option maxRecDepth 20000 in
set_option maxHeartbeats 4000000 in
theorem iChks (a : Option Addr) (m cap : Nat) (R : Nat → St) (hm : m ≤ 1048576) (hs : ∀ k, k < m → StB (R k) 1048576) (w : World) (h : Sts w a m cap R) :
    Calls Tryz.prog 33 #[.slice a m cap] w fun e w' => ((plP m R ∧ e = .returned (.tuple #[])) ∨ (¬ plP m R ∧ Thrown e)) ∧ Below w.heap.size w w' := by
  have HH := hid h
  have HS := hid hs
  clear h hs
  go_enter Tryz.func33, Tryz.ntmps33
  go_wp2_with fail
  go_loopw [6] (fun v wr => ∃ k : Nat, k ≤ m ∧ k ≤ 50 ∧ v = .int .i64 (k : Int) ∧ (∀ i, i < k → stP (R i) ∧ (R i).cs.n ≤ 10) ∧ Below w.heap.size w wr) (fun v _ => m - (intOf v).toNat)
  case atStart => exact ⟨0, Nat.zero_le _, Nat.zero_le _, rfl, fun i hi => absurd hi (Nat.not_lt_zero _), Below.refl _ _⟩
  case round =>
    obtain ⟨k, hk, hk50, rfl, hr, hB⟩ := hrel
    have HR := hid hr
    have HB := hid hB
    clear hr hB
    by_cases hlt : k < m
    · have d3 : (k : Int) < (m : Int) := by omega
      have k0 : (0 : Int) ≤ (k : Int) := by omega
      rcases (HH.out.below HB.out).2.1 with h00 | ⟨b, off, rfl, hbl, hc⟩
      · omega
      obtain ⟨x0, x1, x2, x3, x4⟩ := hc k hlt
      have hb5 := hid (HS.out k hlt)
      have hin := hid ((HH.out.below HB.out).2.2 k hlt)
      clear hc
      by_cases q : stP (R k) ∧ k < 50 ∧ (R k).cs.n ≤ 10
      · have N : Hid (∀ i, i < k + 1 → stP (R i) ∧ (R i).cs.n ≤ 10) := fun i hi => by
          by_cases e : i = k
          · subst e; exact ⟨q.1, q.2.2⟩
          · exact HR.out i (by omega)
        have q50 := q.2.1
        have K := fun (l : Int) w (hi : StIn w (R k)) => hid (iChk_ok (R k) hb5.out l k q.1 q.2.1 q.2.2 w hi)
        clear q hb5
        generalize R k = T at x0 x1 x2 x3 x4 K hin
        obtain ⟨f, ⟨a1, n1, c1, t1⟩, ⟨a2, n2, c2, t2⟩, ⟨a3, n3, c3, t3⟩, ⟨a4, n4, c4, o4⟩⟩ := T
        dsimp only at x0 x1 x2 x3 x4 K
        obtain ⟨W2, hW2⟩ : ∃ W, W = wr.alloc (.cells #[.int .i64 f, .slice a1 n1 c1, .slice a2 n2 c2, .slice a3 n3 c3, .slice a4 n4 c4] 73) := ⟨_, rfl⟩
        have B2 : Hid (Below w.heap.size w W2) := by rw [hW2]; exact HB.out.alloc HB.out.size _
        have I2 : Hid (StIn W2 ⟨f, ⟨a1, n1, c1, t1⟩, ⟨a2, n2, c2, t2⟩, ⟨a3, n3, c3, t3⟩, ⟨a4, n4, c4, o4⟩⟩) := by rw [hW2]; exact hin.out.below (balCn (Below.refl _ _) _)
        go_wp2_with fail
        rw [← hW2]
        clear hW2
        refine (K _ _ I2.out).out.mono ?_
        rintro e w3 ⟨rfl, hb3⟩
        have B3 := hid (B2.out.trans (hb3.mono B2.out.size))
        clear hb3 x0 x1 x2 x3 x4
        go_wp2
        go_roundw
        case rel => exact ⟨k + 1, by omega, by omega, by go_num, N.out, B3.out⟩
        case measure => simp [intOf]; omega
      · have N : Hid (¬ plP m R) := fun hh => q ⟨(hh.2 k hlt).1, by have := hh.1; omega, (hh.2 k hlt).2⟩
        have K := fun (l : Int) w (hi : StIn w (R k)) => hid (iChk_no (R k) hb5.out l k (by omega) q w hi)
        clear q hb5
        generalize R k = T at x0 x1 x2 x3 x4 K hin
        obtain ⟨f, ⟨a1, n1, c1, t1⟩, ⟨a2, n2, c2, t2⟩, ⟨a3, n3, c3, t3⟩, ⟨a4, n4, c4, o4⟩⟩ := T
        dsimp only at x0 x1 x2 x3 x4 K
        obtain ⟨W2, hW2⟩ : ∃ W, W = wr.alloc (.cells #[.int .i64 f, .slice a1 n1 c1, .slice a2 n2 c2, .slice a3 n3 c3, .slice a4 n4 c4] 73) := ⟨_, rfl⟩
        have B2 : Hid (Below w.heap.size w W2) := by rw [hW2]; exact HB.out.alloc HB.out.size _
        have I2 : Hid (StIn W2 ⟨f, ⟨a1, n1, c1, t1⟩, ⟨a2, n2, c2, t2⟩, ⟨a3, n3, c3, t3⟩, ⟨a4, n4, c4, o4⟩⟩) := by rw [hW2]; exact hin.out.below (balCn (Below.refl _ _) _)
        go_wp2_with fail
        rw [← hW2]
        clear hW2
        refine (K _ _ I2.out).out.mono ?_
        rintro e w3 ⟨hT, hb3⟩
        obtain ⟨c, l, hc0, rfl⟩ := hT
        have B3 := hid (B2.out.trans (hb3.mono B2.out.size))
        clear hb3 x0 x1 x2 x3 x4
        go_wp2
        exact ⟨rfl, .inr ⟨N.out, c, l, hc0, rfl⟩, B3.out⟩
    · have d3 : ¬ (k : Int) < (m : Int) := by omega
      have N : Hid (plP m R) := ⟨by omega, fun i hi => HR.out i (by omega)⟩
      go_wp2
      go_end0
      exact ⟨.inl ⟨N.out, rfl⟩, HB.out⟩
set_option maxRecDepth 20000 in
set_option maxHeartbeats 4000000 in
theorem iClo (b : Nat) (a : Option Addr) (m cap : Nat) (R : Nat → St) (hm : m ≤ 1048576) (hs : ∀ k, k < m → StB (R k) 1048576) (w : World) (hb : w.cell? ⟨b, 0, none⟩ = some (.slice a m cap)) (h : Sts w a m cap R) :
    Calls Tryz.prog 32 #[.pointer (some ⟨b, 0, none⟩)] w fun e w' => ((plP m R ∧ e = .returned (.tuple #[])) ∨ (¬ plP m R ∧ Thrown e)) ∧ Below w.heap.size w w' := by
  have K := hid (iChks a m cap R hm hs w h)
  clear h hs
  go_enter Tryz.func32, Tryz.ntmps32
  go_wp2_with fail
  refine K.out.mono ?_
  rintro e w2 ⟨(⟨hp, rfl⟩ | ⟨hp, c, l, hc0, rfl⟩), hb2⟩
  · have HP := hid hp
    have HB := hid hb2
    clear hp hb2
    go_wp2
    go_end0
    exact ⟨.inl ⟨HP.out, rfl⟩, HB.out⟩
  · have HP := hid hp
    have HB := hid hb2
    clear hp hb2
    go_wp2
    exact ⟨rfl, .inr ⟨HP.out, c, l, hc0, rfl⟩, HB.out⟩
end Go.Proofs.YtmjolkagkeonfaaGreatDoor
namespace Go.Proofs.YtmjolkagkeonfaaGreatDoor
open Go.RowKit
/-! The program's caught: what is thrown is the answer. -/
theorem taF (v : Value) (w : World) : (Instr.typeAssert (.iface 86 v) 20 86 false).run Tryz.prog w = .ok v w := by kernel_rfl
set_option maxRecDepth 20000 in
set_option maxHeartbeats 2000000 in
theorem catch_idle (p : Addr) (w : World) :
    CallsD Tryz.prog 68 #[.pointer (some p)] .returning w fun e u' w' => e = .returned (.tuple #[]) ∧ u' = .returning ∧ w' = w := by
  refine callsD_of_wpS Tryz.func68 rfl fun c₀ cs hu => ?_
  apply wpS_seq
  apply wpS_region
  simp [wpOpsS, go_sem, recoverD, hu, Tryz.ntmps68, Exit.thenS]
  refine wpS_of_wp ?_
  have e1 : (#[Value.pointer (some p)] ++ ((Array.replicate 6 undef).setIfInBounds 1 Value.nilIface).setIfInBounds 0 Value.nilIface : Array Value) = #[.pointer (some p), .nilIface, .nilIface, undef, undef, undef, undef] := rfl
  rw [e1]
  go_wp2
  exact ⟨rfl, .returning, by cases c₀; simp_all, .tuple #[], by simp [results, Tryz.results68, go_sem], rfl, rfl, rfl⟩
set_option maxRecDepth 20000 in
set_option maxHeartbeats 2000000 in
theorem catch_panicking (b : Nat) (c l : Int) (older : List PanicEntry) (w : World) (h0 : RowAt w b 86 #[.int .i64 0, .int .i64 0]) :
    CallsD Tryz.prog 68 #[.pointer (some ⟨b, 0, none⟩)] (.panicking ({ v := .iface 86 (.agg #[.int .i64 c, .int .i64 l]), recovered := false } :: older)) w fun e u' w' =>
      e = .returned (.tuple #[]) ∧ u' = .panicking ({ v := .iface 86 (.agg #[.int .i64 c, .int .i64 l]), recovered := true } :: older) ∧ w' = (w.setCell ⟨b, 0, none⟩ (.int .i64 c)).setCell ⟨b, 1, none⟩ (.int .i64 l) := by
  refine callsD_of_wpS Tryz.func68 rfl fun c₀ cs hu => ?_
  apply wpS_seq
  apply wpS_region
  simp [wpOpsS, go_sem, recoverD, hu, Tryz.ntmps68, Exit.thenS]
  refine wpS_of_wp ?_
  have hta := taF
  have c0 := h0.cell 0
  have c1 := h0.cell 1
  have f0 := h0.free 0
  have f1 := (h0.set 0 (.int .i64 c)).free 1
  have e1 : (#[Value.pointer (some ⟨b, 0, none⟩)] ++ ((Array.replicate 6 undef).setIfInBounds 1 (Value.iface 86 (Value.agg #[Value.int IntKind.i64 c, Value.int IntKind.i64 l]))).setIfInBounds 0 (Value.iface 86 (Value.agg #[Value.int IntKind.i64 c, Value.int IntKind.i64 l])) : Array Value) = #[.pointer (some ⟨b, 0, none⟩), Value.iface 86 (Value.agg #[Value.int IntKind.i64 c, Value.int IntKind.i64 l]), Value.iface 86 (Value.agg #[Value.int IntKind.i64 c, Value.int IntKind.i64 l]), undef, undef, undef, undef] := rfl
  rw [e1]
  go_wp2
  exact ⟨rfl, _, rfl, .tuple #[], by simp [results, Tryz.results68, go_sem], rfl, rfl, rfl⟩
set_option maxRecDepth 20000 in
set_option maxHeartbeats 4000000 in
theorem iCaught (b : Nat) (a : Option Addr) (m cap : Nat) (R : Nat → St) (hm : m ≤ 1048576) (hs : ∀ k, k < m → StB (R k) 1048576) (w : World) (hbl : b < w.heap.size) (hb : w.cell? ⟨b, 0, none⟩ = some (.slice a m cap)) (h : Sts w a m cap R) :
    Calls Tryz.prog 31 #[.func (.func 32) #[] #[.pointer (some ⟨b, 0, none⟩)]] w fun e w' => (∃ c l : Int, e = .returned (.agg #[.int .i64 c, .int .i64 l]) ∧ (c = 0 ↔ plP m R)) ∧ Below w.heap.size w w' := by
  have hmf : ∀ (fn : Fn) (first cap : Array Value) (w : World), (Instr.makeFunc fn first cap).run Tryz.prog w = .ok (.func fn first cap) w := fun _ _ _ _ => rfl
  obtain ⟨W0, hW0⟩ : ∃ W, W = w.alloc (.cells #[.int .i64 0, .int .i64 0] 86) := ⟨_, rfl⟩
  have B0 : Hid (Below w.heap.size w W0) := by rw [hW0]; exact balCn (Below.refl _ _) _
  have R0 : Hid (RowAt W0 w.heap.size 86 #[.int .i64 0, .int .i64 0]) := by rw [hW0]; exact RowAt.new _ _ _
  have K := hid (iClo b a m cap R hm hs W0 ((B0.out.cell (p := ⟨b, 0, none⟩) hbl).trans hb) (h.below B0.out))
  clear h hs hb
  go_enter_defers Tryz.func31, Tryz.ntmps31
  go_wp2_with fail
  rw [← hW0]
  clear hW0
  refine K.out.mono ?_
  rintro e w2 ⟨(⟨hp, rfl⟩ | ⟨hp, c, l, hc0, rfl⟩), hb2⟩
  · have HP := hid hp
    have R2 := hid (R0.out.below hb2 R0.out.lt)
    have B2 := hid (B0.out.trans (hb2.mono B0.out.size))
    have c0 := R2.out.cell 0
    have c1 := R2.out.cell 1
    have f0 := R2.out.free 0
    have f1 := (R2.out.set 0 (.int .i64 0)).free 1
    clear hp hb2 K
    go_wp2
    refine leaves_cons (f := 68) (args := #[.pointer (some ⟨w.heap.size, 0, none⟩)]) (by simp) (by simp [go_sem]) ?_
    refine (catch_idle _ _).mono ?_
    rintro e u' w'' ⟨rfl, rfl, rfl⟩
    have R3 : RowAt ((w2.setCell ⟨w.heap.size, 0, none⟩ (.int .i64 0)).setCell ⟨w.heap.size, 1, none⟩ (.int .i64 0)) w.heap.size 86 #[.int .i64 0, .int .i64 0] := (R2.out.set 0 (.int .i64 0)).set 1 (.int .i64 0)
    refine ⟨.agg #[.int .i64 0, .int .i64 0], results_cell_row Tryz.results31 _ _ w.heap.size _ _ _ _ rfl R3 Tryz.underlying86 rfl (by kernel_rfl), ⟨0, 0, rfl, fun _ => HP.out, fun _ => rfl⟩, (B2.out.setCell (Nat.le_refl _) _).setCell (Nat.le_refl _) _⟩
  · have HP := hid hp
    have R2 := hid (R0.out.below hb2 R0.out.lt)
    have B2 := hid (B0.out.trans (hb2.mono B0.out.size))
    clear hp hb2 K
    go_wp2
    refine leaves_cons (f := 68) (args := #[.pointer (some ⟨w.heap.size, 0, none⟩)]) (by simp) (by simp [go_sem]) ?_
    refine (catch_panicking w.heap.size c l [] w2 R2.out).mono ?_
    rintro e u' w'' ⟨rfl, rfl, rfl⟩
    have R3 : RowAt ((w2.setCell ⟨w.heap.size, 0, none⟩ (.int .i64 c)).setCell ⟨w.heap.size, 1, none⟩ (.int .i64 l)) w.heap.size 86 #[.int .i64 c, .int .i64 l] := (R2.out.set 0 (.int .i64 c)).set 1 (.int .i64 l)
    refine ⟨.agg #[.int .i64 c, .int .i64 l], results_cell_row Tryz.results31 _ _ w.heap.size _ _ _ _ rfl R3 Tryz.underlying86 rfl (by kernel_rfl), ⟨c, l, rfl, fun hh => absurd hh hc0, fun hh => absurd hh HP.out⟩, (B2.out.setCell (Nat.le_refl _) _).setCell (Nat.le_refl _) _⟩
end Go.Proofs.YtmjolkagkeonfaaGreatDoor
