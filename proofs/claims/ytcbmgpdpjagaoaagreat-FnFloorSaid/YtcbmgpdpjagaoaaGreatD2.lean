import Derived.Test.YtcbmgpdpjagaoaaGreatD1
import Derived.Test.YtcbmgpdpjagaoaaGreatD1
import Derived.Test.YtcbmgpdpjagaoaaGreatT1
import Derived.Test.YtcbmgpdpjagaoaaGreatRtbW
namespace Go.Proofs.YtcbmgpdpjagaoaaGreat
open Go.RowKit
set_option linter.unusedVariables false
def toL (L : List TOp) : List Value := L.flatMap fun o => [.int .i64 o.kd, .string o.ky, .string o.tx, .int .i64 o.sq, .string o.til, .int .i64 o.lm]
theorem toL_app (A B : List TOp) : toL (A ++ B) = toL A ++ toL B := by simp [toL]
theorem lockT {P : Prop} (h : Hid P) : P := h.out
def ToOk (L : List TOp) : Prop := ∀ o ∈ L, o.ky.size ≤ 1000 ∧ o.til.size ≤ 1000 ∧ o.sq ≤ 1000
theorem ToOk.snoc {L : List TOp} (h : ToOk L) {o : TOp} (ho : o.ky.size ≤ 1000 ∧ o.til.size ≤ 1000 ∧ o.sq ≤ 1000) : ToOk (L ++ [o]) := fun x hx => by
 rcases List.mem_append.1 hx with hx | hx
 · exact h x hx
 · rw [List.mem_singleton] at hx; subst hx; exact ho
theorem Tryz.infoTo8 : (Tryz.prog.info? 39).map (fun i => (i.zero, i.size, i.bytes)) = some (some (.agg #[.int .i64 0, .string ⟨#[]⟩, .string ⟨#[]⟩, .int .i64 0, .string ⟨#[]⟩, .int .i64 0]), 6, 72) := by kernel_rfl
theorem append_top {ops : Array Oper} {rest : List Oper} {o : Oper} {a : Act} {Q' : Exit → Act → World → Prop} (base : Nat) (wr : World) (hgd : o.guard = none) (s x : Operand)
 (ho : o.op = .call { callee := .builtin .append, args := #[s, x], argTypes := #[29, 29] })
 (v : Value) (L : List TOp) (t : TOp) (hs : a.eval s = v) (hown : wr.ownsRow base 39 6 v L.length (toL L)) (hsz : base ≤ wr.heap.size)
 (hx : a.eval x = .slice (some ⟨wr.heap.size, 0, none⟩) 1 1) (hlen : L.length ≤ 1048576)
 (h : ∀ v' w', w'.ownsRow base 39 6 v' (L ++ [t]).length (toL (L ++ [t])) → wr.grownBy w' v.ownBlock → wpList Tryz.prog ops Q' rest (a.put o.dst v') w') :
 wpList Tryz.prog ops Q' (o :: rest) a (wr.alloc (.cells #[.int .i64 t.kd, .string t.ky, .string t.tx, .int .i64 t.sq, .string t.til, .int .i64 t.lm] 39)) := by
 obtain ⟨i0, hi, hz0, hz1, hz2⟩ := info_parts Tryz.infoTo8; refine wpList_append_own _ hgd s x 29 ho base 39 i0 _ 6 72 Tryz.underlying29 hi hz0 hz1 hz2 rfl (by decide) v L.length _ hs (World.ownsRow.alloc hown _) ⟨wr.heap.size, 0, none⟩ 1 1 [.int .i64 t.kd, .string t.ky, .string t.tx, .int .i64 t.sq, .string t.til, .int .i64 t.lm] hx rfl ?_ ?_ ?_ ?_ ?_ ?_
 · intro j u hj
   have R := RA.new wr 39 #[.int .i64 t.kd, .string t.ky, .string t.tx, .int .i64 t.sq, .string t.til, .int .i64 t.lm]
   match j, hj with
   | 0, hj => simp at hj; subst hj; exact R.cell 0
   | 1, hj => simp at hj; subst hj; exact R.cell 1
   | 2, hj => simp at hj; subst hj; exact R.cell 2
   | 3, hj => simp at hj; subst hj; exact R.cell 3
   | 4, hj => simp at hj; subst hj; exact R.cell 4
   | 5, hj => simp at hj; subst hj; exact R.cell 5
 · intro u hu; simp at hu; rcases hu with rfl | rfl | rfl | rfl | rfl | rfl <;> rfl
 · unfold maxLen; omega
 · omega
 · simp; omega
 · intro v' w' h1 h2 h3
   refine h v' w' ?_ (grown_trans (World.grownBy_alloc wr _ _) h2); rw [List.length_append, toL_app]; exact h1
theorem til_at (k : Nat) (hk : k < 3) : ∃ x : ByteArray, (#[.string ⟨#[99]⟩, .string ⟨#[97]⟩, .string ⟨#[122]⟩] : Array Value)[k]? = some (.string x) ∧ x.size ≤ 1 := by
 rcases (by omega : k = 0 ∨ k = 1 ∨ k = 2) with rfl | rfl | rfl
 all_goals exact ⟨_, rfl, by decide⟩
set_option maxRecDepth 20000 in
set_option maxHeartbeats 16000000 in
theorem tops_all (W0 w : World) (c : Nat) (a : Option Addr) (len cap p : Nat) (h : Src W0 w c a len cap p) (n : Nat) (hn : n ≤ 1000) (hp : p ≤ 100000) :
 Calls Tryz.prog 20 #[.pointer (some ⟨c, 0, none⟩), .int .i64 (n : Int)] w fun e w' => (∃ v L, e = .returned v ∧ L.length = n ∧ w'.ownsRow w.heap.size 39 6 v L.length (toL L) ∧ ToOk L) ∧ (∃ p', Src W0 w' c a len cap p' ∧ p' ≤ p + 400 * n) ∧ w.grownBy w' (some c) := by
 have CW : Hid (c < w.heap.size) := h.lt; have H0 := hid h; clear h
 go_enter Tryz.func20, Tryz.ntmps20
 go_wp2_with fail
 go_loopw [6, 5] (fun q v wr => ∃ (i : Nat) (V : Value) (L : List TOp) (p' : Nat), i ≤ n ∧ q = .int .i64 (i : Int) ∧ V = v ∧ L.length = i ∧ wr.ownsRow w.heap.size 39 6 V L.length (toL L) ∧ Src W0 wr c a len cap p' ∧ p' ≤ p + 400 * i ∧ w.grownBy wr (some c) ∧ ToOk L) (fun q _ _ => n - (intOf q).toNat)
 case atStart => exact ⟨0, _, [], p, Nat.zero_le _, rfl, rfl, rfl, World.ownsRow_made w #[] 0 (Nat.le_refl _) (by decide) rfl, H0.out.alloc _, Nat.le_refl _, World.grownBy_alloc _ _ _, fun o ho => (by cases ho)⟩
 case round =>
  obtain ⟨i, v, L, p1, hi, rfl, rfl, hL, hO, hS, hp1, hG, hPL⟩ := hrel; have PL := hid hPL; have LL := hid hL; have OO := hid hO; have SS := hid hS; have GG := hid hG; have CL : Hid (c < wr.heap.size) := hS.lt; clear hL hO hS hG H0 hPL
  by_cases hlt : i < n
  · have d0 : (i : Int) < (n : Int) := by omega
    go_wp2_with fail
    refine to5_wp W0 wr c a len cap p1 wr SS.out (below_grown (Below.refl _ _) _) CL.out (by omega) ?_; intro XT XS XB R2 kd R7 ky wd R13 R15 p2 w2 hs2 hp2 hg2 hc2; intros
    rename_i hB2 _ hkz hr13
    have KZ : Hid (ky.size ≤ 1) := hkz; have QZ : Hid (R13 < 12) := hr13; have XL : Hid (wr.heap.size ≤ XB) := hB2.1; have B2 : Hid (RA w2 XB 39 #[.int .i64 kd, .string ky, .string wd, .int .i64 (R13 : Int), .string ⟨#[]⟩, .int .i64 (R15 : Int)]) := hB2.2; have S2 := hid hs2; have G2 : Hid (wr.grownBy w2 (some c)) := hg2; clear hs2 hg2 hc2 hB2 SS hkz hr13
    rename_i ha1 ha2 ha3 ha4
    clear ha1 ha2 ha3 ha4
    go_wp2_with fail
    refine (one_all W0 w2 c a len cap p2 3 S2.out (by omega) (by omega) (by omega)).mono ?_
    rintro e w3 ⟨⟨b1, rfl⟩, hs3, hg3⟩
    have S3 := hid hs3; have G3 := hid (grown_trans G2.out hg3); have B3 := hid (rowF B2.out hg3 (by have := XL.out; have := CL.out; omega)); clear hs3 hg3 S2 G2 B2
    cases b1 with
    | true =>
     obtain ⟨W35, hW35⟩ : ∃ W, W = w3.alloc (.cells #[.string ⟨#[99]⟩, .string ⟨#[97]⟩, .string ⟨#[122]⟩] 9) := ⟨_, rfl⟩; have T35 : RA W35 w3.heap.size 9 #[.string ⟨#[99]⟩, .string ⟨#[97]⟩, .string ⟨#[122]⟩] := by rw [hW35]; exact RA.new _ _ _
     have S35 : Src W0 W35 c a len cap (p2 + 1) := by rw [hW35]; exact S3.out.alloc _
     have G35 : w3.grownBy W35 (some c) := by rw [hW35]; exact World.grownBy_alloc _ _ _
     have KN := hid (n_all W0 W35 c a len cap (p2 + 1) 3 S35 (by omega) (by omega) (by omega)); rw [hW35] at KN
     go_wp2_with fail
     refine KN.out.mono ?_; rw [← hW35]
     rintro e w37 ⟨⟨r, rfl, hr0, hr1⟩, hs37, hg37⟩
     obtain ⟨rn, rfl⟩ := Int.eq_ofNat_of_zero_le hr0; obtain ⟨til, htil, htz⟩ := til_at rn (by omega); have TZ : Hid (til.size ≤ 1) := htz; clear htz; have T37 := rowF T35 hg37 (by have := CL.out; have := G3.out.size; omega); have B37 := rowF (rowF B3.out G35 (by have := XL.out; have := CL.out; omega)) hg37 (by have := XL.out; have := CL.out; omega); have t0 := (T37.cell rn).trans htil; have rr1 : (rn : Int) < 3 := by omega
     have rr0 : (0 : Int) ≤ (rn : Int) := by omega
     have k4 := B37.cell 4; have f4 := B37.free 4; obtain ⟨w4, hw4⟩ : ∃ W, W = w37.setCell ⟨XB, 4, none⟩ (.string til) := ⟨_, rfl⟩; obtain ⟨p4, hp4⟩ : ∃ x, x = p2 + 1 + 1 := ⟨_, rfl⟩; have S4 : Hid (Src W0 w4 c a len cap p4) := by rw [hw4, hp4]; exact hs37.set (by have := XL.out; have := CL.out; omega) 4 _
     have G4 : Hid (wr.grownBy w4 (some c)) := by rw [hw4]; exact grown_far (grown_trans (grown_trans G3.out G35) hg37) XL.out 4 _
     have B4 : Hid (RA w4 XB 39 #[.int .i64 kd, .string ky, .string wd, .int .i64 (R13 : Int), .string til, .int .i64 (R15 : Int)]) := by rw [hw4]; exact B37.set 4 _
     have HW4 := hid hw4; clear hw4 hs37 hg37 T37 B37 T35 S35 G35 KN S3 G3 B3 htil hW35
     go_upto_region 8 with fail
     rw [← HW4.out]; clear HW4 t0 k4 f4
     go_wp2_with fail
     refine (one_all W0 w4 c a len cap p4 30 S4.out (by omega) (by omega) (by omega)).mono ?_
     rintro e w5 ⟨⟨b2, rfl⟩, hs5, hg5⟩
     have S5 := hid hs5; have G5 := hid (grown_trans G4.out hg5); have B5 := hid (rowF B4.out hg5 (by have := XL.out; have := CL.out; omega)); clear hs5 hg5 S4 G4 B4
     cases b2 with
     | true =>
      go_wp2_with fail
      refine to9_wp W0 wr c a len cap (p4 + 1) XB kd wd (R13 : Int) til (R15 : Int) ky w5 S5.out G5.out ⟨CL.out, XL.out⟩ B5.out (by omega) ?_; intro X3 X5 R1 x4 R7 kn p6 w6 hs6 hp6 hg6 hc6; intros
      rename_i hB6 _ _ hkz9
      have KZ9 : Hid (kn.size ≤ 201) := hkz9; have S6 := hid hs6; have G6 : Hid (wr.grownBy w6 (some c)) := hg6; have B6 : Hid (RA w6 XB 39 #[.int .i64 kd, .string kn, .string wd, .int .i64 (R13 : Int), .string til, .int .i64 (R15 : Int)]) := hB6; clear hs6 hg6 hc6 hB6 S5 G5 B5 hkz9
      go_wp2_with fail
      refine (one_all W0 w6 c a len cap p6 30 S6.out (by omega) (by omega) (by omega)).mono ?_
      rintro e w7 ⟨⟨b3, rfl⟩, hs7, hg7⟩
      have S7 := hid hs7; have G7 := hid (grown_trans G6.out hg7); have B7 := hid (rowF B6.out hg7 (by have := XL.out; have := CL.out; omega)); clear hs7 hg7 S6 G6 B6
      cases b3 with
      | true =>
       go_wp2_with fail
       refine (n_all W0 w7 c a len cap (p6 + 1) 2 S7.out (by omega) (by omega) (by omega)).mono ?_
       rintro e w75 ⟨⟨r, rfl, hr0, hr1⟩, hs8, hg8⟩
       have B75 := rowF B7.out hg8 (by have := XL.out; have := CL.out; omega); have k0 := B75.cell 0; have kf := B75.free 0; have rb : -9223372036854775808 ≤ r ∧ r ≤ 1000 := by omega
       obtain ⟨w8, hw8⟩ : ∃ W, W = w75.setCell ⟨XB, 0, none⟩ (.int .i64 (7 * r)) := ⟨_, rfl⟩; obtain ⟨p8, hp8⟩ : ∃ x, x = p6 + 1 + 1 := ⟨_, rfl⟩; have S8 : Hid (Src W0 w8 c a len cap p8) := by rw [hw8, hp8]; exact hs8.set (by have := XL.out; have := CL.out; omega) 0 _
       have G8 : Hid (wr.grownBy w8 (some c)) := by rw [hw8]; exact grown_far (grown_trans G7.out hg8) XL.out 0 _
       have B8 : Hid (RA w8 XB 39 #[.int .i64 (7 * r), .string kn, .string wd, .int .i64 (R13 : Int), .string til, .int .i64 (R15 : Int)]) := by rw [hw8]; exact B75.set 0 _
       have HW8 := hid hw8; clear hw8 hs8 hg8 B75 S7 G7 B7
       go_upto_region 12 with fail
       rw [← HW8.out]; clear HW8 k0 kf; have O8 : Hid (w8.ownsRow w.heap.size 39 6 v L.length (toL L)) := or_keep OO.out fun g cs e r => (G8.out.block g r.lt (fun e2 => by have := (or_row OO.out e).1; have := CW.out; cases e2; omega)).trans r; have z0 := B8.out.cell 0; have z1 := B8.out.cell 1; have z2 := B8.out.cell 2; have z3 := B8.out.cell 3; have z4 := B8.out.cell 4; have z5 := B8.out.cell 5; have WZ : Hid (w.heap.size ≤ w8.heap.size) := Nat.le_trans GG.out.size G8.out.size
       go_wp2_with (at_builtin; refine lockT ?_)
       refine hid ?_; refine append_top w.heap.size w8 rfl (.tmp 58) (.tmp 60) rfl v L ⟨(7 * r), kn, wd, (R13 : Int), til, (R15 : Int)⟩ rfl O8.out WZ.out rfl (by have := LL.out; omega) ?_; intro v9 w9 hO9 hg9; have ne9 : some c ≠ v.ownBlock := fun e => by have := (or_row O8.out e.symm).1; have := CW.out; omega
       have S9 : Hid (Src W0 w9 c a len cap p8) := S8.out.far hg9 ne9 (fun g e => by have := (or_row O8.out e).1; have := S8.out.2.2.2.2; have := CW.out; omega)
       have G9 : Hid (w.grownBy w9 (some c)) := by
        refine ⟨hg9.os.trans (G8.out.os.trans GG.out.os), hg9.tape.trans (G8.out.tape.trans GG.out.tape), hg9.output.trans (G8.out.output.trans GG.out.output), Nat.le_trans GG.out.size (Nat.le_trans G8.out.size hg9.size), fun k hk hne => ?_⟩; rw [hg9.block k (Nat.lt_of_lt_of_le hk WZ.out) (fun e => by have := (or_row O8.out e.symm).1; omega), G8.out.block k (Nat.lt_of_lt_of_le hk GG.out.size) hne, GG.out.block k hk hne]
       have O9 := hid hO9; clear hO9 hg9 ne9 z0 z1 z2 z3 z4 z5 O8 S8 G8 B8 OO GG
       go_wp2
       go_roundw
       case rel => exact ⟨i + 1, _, L ++ [⟨(7 * r), kn, wd, (R13 : Int), til, (R15 : Int)⟩], p8, by omega, by go_num, rfl, by rw [List.length_append, LL.out]; rfl, O9.out, S9.out, by omega, G9.out, PL.out.snoc ⟨Nat.le_trans KZ9.out (by decide), Nat.le_trans TZ.out (by decide), by show ((R13 : Nat) : Int) ≤ 1000; have := QZ.out; omega⟩⟩
       case measure => simp [intOf]; omega
      | false =>
       obtain ⟨w8, hw8⟩ : ∃ W, W = w7 := ⟨_, rfl⟩; obtain ⟨p8, hp8⟩ : ∃ x, x = p6 + 1 := ⟨_, rfl⟩; have S8 : Hid (Src W0 w8 c a len cap p8) := by rw [hw8, hp8]; exact S7.out
       have G8 : Hid (wr.grownBy w8 (some c)) := by rw [hw8]; exact G7.out
       have B8 : Hid (RA w8 XB 39 #[.int .i64 kd, .string kn, .string wd, .int .i64 (R13 : Int), .string til, .int .i64 (R15 : Int)]) := by rw [hw8]; exact B7.out
       rw [← hw8]; clear hw8 S7 G7 B7; have O8 : Hid (w8.ownsRow w.heap.size 39 6 v L.length (toL L)) := or_keep OO.out fun g cs e r => (G8.out.block g r.lt (fun e2 => by have := (or_row OO.out e).1; have := CW.out; cases e2; omega)).trans r; have z0 := B8.out.cell 0; have z1 := B8.out.cell 1; have z2 := B8.out.cell 2; have z3 := B8.out.cell 3; have z4 := B8.out.cell 4; have z5 := B8.out.cell 5; have WZ : Hid (w.heap.size ≤ w8.heap.size) := Nat.le_trans GG.out.size G8.out.size
       go_wp2_with (at_builtin; refine lockT ?_)
       refine hid ?_; refine append_top w.heap.size w8 rfl (.tmp 58) (.tmp 60) rfl v L ⟨kd, kn, wd, (R13 : Int), til, (R15 : Int)⟩ rfl O8.out WZ.out rfl (by have := LL.out; omega) ?_; intro v9 w9 hO9 hg9; have ne9 : some c ≠ v.ownBlock := fun e => by have := (or_row O8.out e.symm).1; have := CW.out; omega
       have S9 : Hid (Src W0 w9 c a len cap p8) := S8.out.far hg9 ne9 (fun g e => by have := (or_row O8.out e).1; have := S8.out.2.2.2.2; have := CW.out; omega)
       have G9 : Hid (w.grownBy w9 (some c)) := by
        refine ⟨hg9.os.trans (G8.out.os.trans GG.out.os), hg9.tape.trans (G8.out.tape.trans GG.out.tape), hg9.output.trans (G8.out.output.trans GG.out.output), Nat.le_trans GG.out.size (Nat.le_trans G8.out.size hg9.size), fun k hk hne => ?_⟩; rw [hg9.block k (Nat.lt_of_lt_of_le hk WZ.out) (fun e => by have := (or_row O8.out e.symm).1; omega), G8.out.block k (Nat.lt_of_lt_of_le hk GG.out.size) hne, GG.out.block k hk hne]
       have O9 := hid hO9; clear hO9 hg9 ne9 z0 z1 z2 z3 z4 z5 O8 S8 G8 B8 OO GG
       go_wp2
       go_roundw
       case rel => exact ⟨i + 1, _, L ++ [⟨kd, kn, wd, (R13 : Int), til, (R15 : Int)⟩], p8, by omega, by go_num, rfl, by rw [List.length_append, LL.out]; rfl, O9.out, S9.out, by omega, G9.out, PL.out.snoc ⟨Nat.le_trans KZ9.out (by decide), Nat.le_trans TZ.out (by decide), by show ((R13 : Nat) : Int) ≤ 1000; have := QZ.out; omega⟩⟩
       case measure => simp [intOf]; omega
     | false =>
      obtain ⟨w6, hw6⟩ : ∃ W, W = w5 := ⟨_, rfl⟩; obtain ⟨p6, hp6⟩ : ∃ x, x = p4 + 1 := ⟨_, rfl⟩; have S6 : Hid (Src W0 w6 c a len cap p6) := by rw [hw6, hp6]; exact S5.out
      have G6 : Hid (wr.grownBy w6 (some c)) := by rw [hw6]; exact G5.out
      have B6 : Hid (RA w6 XB 39 #[.int .i64 kd, .string ky, .string wd, .int .i64 (R13 : Int), .string til, .int .i64 (R15 : Int)]) := by rw [hw6]; exact B5.out
      rw [← hw6]; clear hw6 S5 G5 B5
      go_wp2_with fail
      refine (one_all W0 w6 c a len cap p6 30 S6.out (by omega) (by omega) (by omega)).mono ?_
      rintro e w7 ⟨⟨b3, rfl⟩, hs7, hg7⟩
      have S7 := hid hs7; have G7 := hid (grown_trans G6.out hg7); have B7 := hid (rowF B6.out hg7 (by have := XL.out; have := CL.out; omega)); clear hs7 hg7 S6 G6 B6
      cases b3 with
      | true =>
       go_wp2_with fail
       refine (n_all W0 w7 c a len cap (p6 + 1) 2 S7.out (by omega) (by omega) (by omega)).mono ?_
       rintro e w75 ⟨⟨r, rfl, hr0, hr1⟩, hs8, hg8⟩
       have B75 := rowF B7.out hg8 (by have := XL.out; have := CL.out; omega); have k0 := B75.cell 0; have kf := B75.free 0; have rb : -9223372036854775808 ≤ r ∧ r ≤ 1000 := by omega
       obtain ⟨w8, hw8⟩ : ∃ W, W = w75.setCell ⟨XB, 0, none⟩ (.int .i64 (7 * r)) := ⟨_, rfl⟩; obtain ⟨p8, hp8⟩ : ∃ x, x = p6 + 1 + 1 := ⟨_, rfl⟩; have S8 : Hid (Src W0 w8 c a len cap p8) := by rw [hw8, hp8]; exact hs8.set (by have := XL.out; have := CL.out; omega) 0 _
       have G8 : Hid (wr.grownBy w8 (some c)) := by rw [hw8]; exact grown_far (grown_trans G7.out hg8) XL.out 0 _
       have B8 : Hid (RA w8 XB 39 #[.int .i64 (7 * r), .string ky, .string wd, .int .i64 (R13 : Int), .string til, .int .i64 (R15 : Int)]) := by rw [hw8]; exact B75.set 0 _
       have HW8 := hid hw8; clear hw8 hs8 hg8 B75 S7 G7 B7
       go_upto_region 12 with fail
       rw [← HW8.out]; clear HW8 k0 kf; have O8 : Hid (w8.ownsRow w.heap.size 39 6 v L.length (toL L)) := or_keep OO.out fun g cs e r => (G8.out.block g r.lt (fun e2 => by have := (or_row OO.out e).1; have := CW.out; cases e2; omega)).trans r; have z0 := B8.out.cell 0; have z1 := B8.out.cell 1; have z2 := B8.out.cell 2; have z3 := B8.out.cell 3; have z4 := B8.out.cell 4; have z5 := B8.out.cell 5; have WZ : Hid (w.heap.size ≤ w8.heap.size) := Nat.le_trans GG.out.size G8.out.size
       go_wp2_with (at_builtin; refine lockT ?_)
       refine hid ?_; refine append_top w.heap.size w8 rfl (.tmp 58) (.tmp 60) rfl v L ⟨(7 * r), ky, wd, (R13 : Int), til, (R15 : Int)⟩ rfl O8.out WZ.out rfl (by have := LL.out; omega) ?_; intro v9 w9 hO9 hg9; have ne9 : some c ≠ v.ownBlock := fun e => by have := (or_row O8.out e.symm).1; have := CW.out; omega
       have S9 : Hid (Src W0 w9 c a len cap p8) := S8.out.far hg9 ne9 (fun g e => by have := (or_row O8.out e).1; have := S8.out.2.2.2.2; have := CW.out; omega)
       have G9 : Hid (w.grownBy w9 (some c)) := by
        refine ⟨hg9.os.trans (G8.out.os.trans GG.out.os), hg9.tape.trans (G8.out.tape.trans GG.out.tape), hg9.output.trans (G8.out.output.trans GG.out.output), Nat.le_trans GG.out.size (Nat.le_trans G8.out.size hg9.size), fun k hk hne => ?_⟩; rw [hg9.block k (Nat.lt_of_lt_of_le hk WZ.out) (fun e => by have := (or_row O8.out e.symm).1; omega), G8.out.block k (Nat.lt_of_lt_of_le hk GG.out.size) hne, GG.out.block k hk hne]
       have O9 := hid hO9; clear hO9 hg9 ne9 z0 z1 z2 z3 z4 z5 O8 S8 G8 B8 OO GG
       go_wp2
       go_roundw
       case rel => exact ⟨i + 1, _, L ++ [⟨(7 * r), ky, wd, (R13 : Int), til, (R15 : Int)⟩], p8, by omega, by go_num, rfl, by rw [List.length_append, LL.out]; rfl, O9.out, S9.out, by omega, G9.out, PL.out.snoc ⟨Nat.le_trans KZ.out (by decide), Nat.le_trans TZ.out (by decide), by show ((R13 : Nat) : Int) ≤ 1000; have := QZ.out; omega⟩⟩
       case measure => simp [intOf]; omega
      | false =>
       obtain ⟨w8, hw8⟩ : ∃ W, W = w7 := ⟨_, rfl⟩; obtain ⟨p8, hp8⟩ : ∃ x, x = p6 + 1 := ⟨_, rfl⟩; have S8 : Hid (Src W0 w8 c a len cap p8) := by rw [hw8, hp8]; exact S7.out
       have G8 : Hid (wr.grownBy w8 (some c)) := by rw [hw8]; exact G7.out
       have B8 : Hid (RA w8 XB 39 #[.int .i64 kd, .string ky, .string wd, .int .i64 (R13 : Int), .string til, .int .i64 (R15 : Int)]) := by rw [hw8]; exact B7.out
       rw [← hw8]; clear hw8 S7 G7 B7; have O8 : Hid (w8.ownsRow w.heap.size 39 6 v L.length (toL L)) := or_keep OO.out fun g cs e r => (G8.out.block g r.lt (fun e2 => by have := (or_row OO.out e).1; have := CW.out; cases e2; omega)).trans r; have z0 := B8.out.cell 0; have z1 := B8.out.cell 1; have z2 := B8.out.cell 2; have z3 := B8.out.cell 3; have z4 := B8.out.cell 4; have z5 := B8.out.cell 5; have WZ : Hid (w.heap.size ≤ w8.heap.size) := Nat.le_trans GG.out.size G8.out.size
       go_wp2_with (at_builtin; refine lockT ?_)
       refine hid ?_; refine append_top w.heap.size w8 rfl (.tmp 58) (.tmp 60) rfl v L ⟨kd, ky, wd, (R13 : Int), til, (R15 : Int)⟩ rfl O8.out WZ.out rfl (by have := LL.out; omega) ?_; intro v9 w9 hO9 hg9; have ne9 : some c ≠ v.ownBlock := fun e => by have := (or_row O8.out e.symm).1; have := CW.out; omega
       have S9 : Hid (Src W0 w9 c a len cap p8) := S8.out.far hg9 ne9 (fun g e => by have := (or_row O8.out e).1; have := S8.out.2.2.2.2; have := CW.out; omega)
       have G9 : Hid (w.grownBy w9 (some c)) := by
        refine ⟨hg9.os.trans (G8.out.os.trans GG.out.os), hg9.tape.trans (G8.out.tape.trans GG.out.tape), hg9.output.trans (G8.out.output.trans GG.out.output), Nat.le_trans GG.out.size (Nat.le_trans G8.out.size hg9.size), fun k hk hne => ?_⟩; rw [hg9.block k (Nat.lt_of_lt_of_le hk WZ.out) (fun e => by have := (or_row O8.out e.symm).1; omega), G8.out.block k (Nat.lt_of_lt_of_le hk GG.out.size) hne, GG.out.block k hk hne]
       have O9 := hid hO9; clear hO9 hg9 ne9 z0 z1 z2 z3 z4 z5 O8 S8 G8 B8 OO GG
       go_wp2
       go_roundw
       case rel => exact ⟨i + 1, _, L ++ [⟨kd, ky, wd, (R13 : Int), til, (R15 : Int)⟩], p8, by omega, by go_num, rfl, by rw [List.length_append, LL.out]; rfl, O9.out, S9.out, by omega, G9.out, PL.out.snoc ⟨Nat.le_trans KZ.out (by decide), Nat.le_trans TZ.out (by decide), by show ((R13 : Nat) : Int) ≤ 1000; have := QZ.out; omega⟩⟩
       case measure => simp [intOf]; omega
    | false =>
     obtain ⟨w4, hw4⟩ : ∃ W, W = w3 := ⟨_, rfl⟩; obtain ⟨p4, hp4⟩ : ∃ x, x = p2 + 1 := ⟨_, rfl⟩; have S4 : Hid (Src W0 w4 c a len cap p4) := by rw [hw4, hp4]; exact S3.out
     have G4 : Hid (wr.grownBy w4 (some c)) := by rw [hw4]; exact G3.out
     have B4 : Hid (RA w4 XB 39 #[.int .i64 kd, .string ky, .string wd, .int .i64 (R13 : Int), .string ⟨#[]⟩, .int .i64 (R15 : Int)]) := by rw [hw4]; exact B3.out
     have TZ : Hid ((⟨#[]⟩ : ByteArray).size ≤ 1) := hid (by decide); rw [← hw4]; clear hw4 S3 G3 B3
     go_wp2_with fail
     refine (one_all W0 w4 c a len cap p4 30 S4.out (by omega) (by omega) (by omega)).mono ?_
     rintro e w5 ⟨⟨b2, rfl⟩, hs5, hg5⟩
     have S5 := hid hs5; have G5 := hid (grown_trans G4.out hg5); have B5 := hid (rowF B4.out hg5 (by have := XL.out; have := CL.out; omega)); clear hs5 hg5 S4 G4 B4
     cases b2 with
     | true =>
      go_wp2_with fail
      refine to9_wp W0 wr c a len cap (p4 + 1) XB kd wd (R13 : Int) ⟨#[]⟩ (R15 : Int) ky w5 S5.out G5.out ⟨CL.out, XL.out⟩ B5.out (by omega) ?_; intro X3 X5 R1 x4 R7 kn p6 w6 hs6 hp6 hg6 hc6; intros
      rename_i hB6 _ _ hkz9
      have KZ9 : Hid (kn.size ≤ 201) := hkz9; have S6 := hid hs6; have G6 : Hid (wr.grownBy w6 (some c)) := hg6; have B6 : Hid (RA w6 XB 39 #[.int .i64 kd, .string kn, .string wd, .int .i64 (R13 : Int), .string ⟨#[]⟩, .int .i64 (R15 : Int)]) := hB6; clear hs6 hg6 hc6 hB6 S5 G5 B5 hkz9
      go_wp2_with fail
      refine (one_all W0 w6 c a len cap p6 30 S6.out (by omega) (by omega) (by omega)).mono ?_
      rintro e w7 ⟨⟨b3, rfl⟩, hs7, hg7⟩
      have S7 := hid hs7; have G7 := hid (grown_trans G6.out hg7); have B7 := hid (rowF B6.out hg7 (by have := XL.out; have := CL.out; omega)); clear hs7 hg7 S6 G6 B6
      cases b3 with
      | true =>
       go_wp2_with fail
       refine (n_all W0 w7 c a len cap (p6 + 1) 2 S7.out (by omega) (by omega) (by omega)).mono ?_
       rintro e w75 ⟨⟨r, rfl, hr0, hr1⟩, hs8, hg8⟩
       have B75 := rowF B7.out hg8 (by have := XL.out; have := CL.out; omega); have k0 := B75.cell 0; have kf := B75.free 0; have rb : -9223372036854775808 ≤ r ∧ r ≤ 1000 := by omega
       obtain ⟨w8, hw8⟩ : ∃ W, W = w75.setCell ⟨XB, 0, none⟩ (.int .i64 (7 * r)) := ⟨_, rfl⟩; obtain ⟨p8, hp8⟩ : ∃ x, x = p6 + 1 + 1 := ⟨_, rfl⟩; have S8 : Hid (Src W0 w8 c a len cap p8) := by rw [hw8, hp8]; exact hs8.set (by have := XL.out; have := CL.out; omega) 0 _
       have G8 : Hid (wr.grownBy w8 (some c)) := by rw [hw8]; exact grown_far (grown_trans G7.out hg8) XL.out 0 _
       have B8 : Hid (RA w8 XB 39 #[.int .i64 (7 * r), .string kn, .string wd, .int .i64 (R13 : Int), .string ⟨#[]⟩, .int .i64 (R15 : Int)]) := by rw [hw8]; exact B75.set 0 _
       have HW8 := hid hw8; clear hw8 hs8 hg8 B75 S7 G7 B7
       go_upto_region 12 with fail
       rw [← HW8.out]; clear HW8 k0 kf; have O8 : Hid (w8.ownsRow w.heap.size 39 6 v L.length (toL L)) := or_keep OO.out fun g cs e r => (G8.out.block g r.lt (fun e2 => by have := (or_row OO.out e).1; have := CW.out; cases e2; omega)).trans r; have z0 := B8.out.cell 0; have z1 := B8.out.cell 1; have z2 := B8.out.cell 2; have z3 := B8.out.cell 3; have z4 := B8.out.cell 4; have z5 := B8.out.cell 5; have WZ : Hid (w.heap.size ≤ w8.heap.size) := Nat.le_trans GG.out.size G8.out.size
       go_wp2_with (at_builtin; refine lockT ?_)
       refine hid ?_; refine append_top w.heap.size w8 rfl (.tmp 58) (.tmp 60) rfl v L ⟨(7 * r), kn, wd, (R13 : Int), ⟨#[]⟩, (R15 : Int)⟩ rfl O8.out WZ.out rfl (by have := LL.out; omega) ?_; intro v9 w9 hO9 hg9; have ne9 : some c ≠ v.ownBlock := fun e => by have := (or_row O8.out e.symm).1; have := CW.out; omega
       have S9 : Hid (Src W0 w9 c a len cap p8) := S8.out.far hg9 ne9 (fun g e => by have := (or_row O8.out e).1; have := S8.out.2.2.2.2; have := CW.out; omega)
       have G9 : Hid (w.grownBy w9 (some c)) := by
        refine ⟨hg9.os.trans (G8.out.os.trans GG.out.os), hg9.tape.trans (G8.out.tape.trans GG.out.tape), hg9.output.trans (G8.out.output.trans GG.out.output), Nat.le_trans GG.out.size (Nat.le_trans G8.out.size hg9.size), fun k hk hne => ?_⟩; rw [hg9.block k (Nat.lt_of_lt_of_le hk WZ.out) (fun e => by have := (or_row O8.out e.symm).1; omega), G8.out.block k (Nat.lt_of_lt_of_le hk GG.out.size) hne, GG.out.block k hk hne]
       have O9 := hid hO9; clear hO9 hg9 ne9 z0 z1 z2 z3 z4 z5 O8 S8 G8 B8 OO GG
       go_wp2
       go_roundw
       case rel => exact ⟨i + 1, _, L ++ [⟨(7 * r), kn, wd, (R13 : Int), ⟨#[]⟩, (R15 : Int)⟩], p8, by omega, by go_num, rfl, by rw [List.length_append, LL.out]; rfl, O9.out, S9.out, by omega, G9.out, PL.out.snoc ⟨Nat.le_trans KZ9.out (by decide), Nat.le_trans TZ.out (by decide), by show ((R13 : Nat) : Int) ≤ 1000; have := QZ.out; omega⟩⟩
       case measure => simp [intOf]; omega
      | false =>
       obtain ⟨w8, hw8⟩ : ∃ W, W = w7 := ⟨_, rfl⟩; obtain ⟨p8, hp8⟩ : ∃ x, x = p6 + 1 := ⟨_, rfl⟩; have S8 : Hid (Src W0 w8 c a len cap p8) := by rw [hw8, hp8]; exact S7.out
       have G8 : Hid (wr.grownBy w8 (some c)) := by rw [hw8]; exact G7.out
       have B8 : Hid (RA w8 XB 39 #[.int .i64 kd, .string kn, .string wd, .int .i64 (R13 : Int), .string ⟨#[]⟩, .int .i64 (R15 : Int)]) := by rw [hw8]; exact B7.out
       rw [← hw8]; clear hw8 S7 G7 B7; have O8 : Hid (w8.ownsRow w.heap.size 39 6 v L.length (toL L)) := or_keep OO.out fun g cs e r => (G8.out.block g r.lt (fun e2 => by have := (or_row OO.out e).1; have := CW.out; cases e2; omega)).trans r; have z0 := B8.out.cell 0; have z1 := B8.out.cell 1; have z2 := B8.out.cell 2; have z3 := B8.out.cell 3; have z4 := B8.out.cell 4; have z5 := B8.out.cell 5; have WZ : Hid (w.heap.size ≤ w8.heap.size) := Nat.le_trans GG.out.size G8.out.size
       go_wp2_with (at_builtin; refine lockT ?_)
       refine hid ?_; refine append_top w.heap.size w8 rfl (.tmp 58) (.tmp 60) rfl v L ⟨kd, kn, wd, (R13 : Int), ⟨#[]⟩, (R15 : Int)⟩ rfl O8.out WZ.out rfl (by have := LL.out; omega) ?_; intro v9 w9 hO9 hg9; have ne9 : some c ≠ v.ownBlock := fun e => by have := (or_row O8.out e.symm).1; have := CW.out; omega
       have S9 : Hid (Src W0 w9 c a len cap p8) := S8.out.far hg9 ne9 (fun g e => by have := (or_row O8.out e).1; have := S8.out.2.2.2.2; have := CW.out; omega)
       have G9 : Hid (w.grownBy w9 (some c)) := by
        refine ⟨hg9.os.trans (G8.out.os.trans GG.out.os), hg9.tape.trans (G8.out.tape.trans GG.out.tape), hg9.output.trans (G8.out.output.trans GG.out.output), Nat.le_trans GG.out.size (Nat.le_trans G8.out.size hg9.size), fun k hk hne => ?_⟩; rw [hg9.block k (Nat.lt_of_lt_of_le hk WZ.out) (fun e => by have := (or_row O8.out e.symm).1; omega), G8.out.block k (Nat.lt_of_lt_of_le hk GG.out.size) hne, GG.out.block k hk hne]
       have O9 := hid hO9; clear hO9 hg9 ne9 z0 z1 z2 z3 z4 z5 O8 S8 G8 B8 OO GG
       go_wp2
       go_roundw
       case rel => exact ⟨i + 1, _, L ++ [⟨kd, kn, wd, (R13 : Int), ⟨#[]⟩, (R15 : Int)⟩], p8, by omega, by go_num, rfl, by rw [List.length_append, LL.out]; rfl, O9.out, S9.out, by omega, G9.out, PL.out.snoc ⟨Nat.le_trans KZ9.out (by decide), Nat.le_trans TZ.out (by decide), by show ((R13 : Nat) : Int) ≤ 1000; have := QZ.out; omega⟩⟩
       case measure => simp [intOf]; omega
     | false =>
      obtain ⟨w6, hw6⟩ : ∃ W, W = w5 := ⟨_, rfl⟩; obtain ⟨p6, hp6⟩ : ∃ x, x = p4 + 1 := ⟨_, rfl⟩; have S6 : Hid (Src W0 w6 c a len cap p6) := by rw [hw6, hp6]; exact S5.out
      have G6 : Hid (wr.grownBy w6 (some c)) := by rw [hw6]; exact G5.out
      have B6 : Hid (RA w6 XB 39 #[.int .i64 kd, .string ky, .string wd, .int .i64 (R13 : Int), .string ⟨#[]⟩, .int .i64 (R15 : Int)]) := by rw [hw6]; exact B5.out
      rw [← hw6]; clear hw6 S5 G5 B5
      go_wp2_with fail
      refine (one_all W0 w6 c a len cap p6 30 S6.out (by omega) (by omega) (by omega)).mono ?_
      rintro e w7 ⟨⟨b3, rfl⟩, hs7, hg7⟩
      have S7 := hid hs7; have G7 := hid (grown_trans G6.out hg7); have B7 := hid (rowF B6.out hg7 (by have := XL.out; have := CL.out; omega)); clear hs7 hg7 S6 G6 B6
      cases b3 with
      | true =>
       go_wp2_with fail
       refine (n_all W0 w7 c a len cap (p6 + 1) 2 S7.out (by omega) (by omega) (by omega)).mono ?_
       rintro e w75 ⟨⟨r, rfl, hr0, hr1⟩, hs8, hg8⟩
       have B75 := rowF B7.out hg8 (by have := XL.out; have := CL.out; omega); have k0 := B75.cell 0; have kf := B75.free 0; have rb : -9223372036854775808 ≤ r ∧ r ≤ 1000 := by omega
       obtain ⟨w8, hw8⟩ : ∃ W, W = w75.setCell ⟨XB, 0, none⟩ (.int .i64 (7 * r)) := ⟨_, rfl⟩; obtain ⟨p8, hp8⟩ : ∃ x, x = p6 + 1 + 1 := ⟨_, rfl⟩; have S8 : Hid (Src W0 w8 c a len cap p8) := by rw [hw8, hp8]; exact hs8.set (by have := XL.out; have := CL.out; omega) 0 _
       have G8 : Hid (wr.grownBy w8 (some c)) := by rw [hw8]; exact grown_far (grown_trans G7.out hg8) XL.out 0 _
       have B8 : Hid (RA w8 XB 39 #[.int .i64 (7 * r), .string ky, .string wd, .int .i64 (R13 : Int), .string ⟨#[]⟩, .int .i64 (R15 : Int)]) := by rw [hw8]; exact B75.set 0 _
       have HW8 := hid hw8; clear hw8 hs8 hg8 B75 S7 G7 B7
       go_upto_region 12 with fail
       rw [← HW8.out]; clear HW8 k0 kf; have O8 : Hid (w8.ownsRow w.heap.size 39 6 v L.length (toL L)) := or_keep OO.out fun g cs e r => (G8.out.block g r.lt (fun e2 => by have := (or_row OO.out e).1; have := CW.out; cases e2; omega)).trans r; have z0 := B8.out.cell 0; have z1 := B8.out.cell 1; have z2 := B8.out.cell 2; have z3 := B8.out.cell 3; have z4 := B8.out.cell 4; have z5 := B8.out.cell 5; have WZ : Hid (w.heap.size ≤ w8.heap.size) := Nat.le_trans GG.out.size G8.out.size
       go_wp2_with (at_builtin; refine lockT ?_)
       refine hid ?_; refine append_top w.heap.size w8 rfl (.tmp 58) (.tmp 60) rfl v L ⟨(7 * r), ky, wd, (R13 : Int), ⟨#[]⟩, (R15 : Int)⟩ rfl O8.out WZ.out rfl (by have := LL.out; omega) ?_; intro v9 w9 hO9 hg9; have ne9 : some c ≠ v.ownBlock := fun e => by have := (or_row O8.out e.symm).1; have := CW.out; omega
       have S9 : Hid (Src W0 w9 c a len cap p8) := S8.out.far hg9 ne9 (fun g e => by have := (or_row O8.out e).1; have := S8.out.2.2.2.2; have := CW.out; omega)
       have G9 : Hid (w.grownBy w9 (some c)) := by
        refine ⟨hg9.os.trans (G8.out.os.trans GG.out.os), hg9.tape.trans (G8.out.tape.trans GG.out.tape), hg9.output.trans (G8.out.output.trans GG.out.output), Nat.le_trans GG.out.size (Nat.le_trans G8.out.size hg9.size), fun k hk hne => ?_⟩; rw [hg9.block k (Nat.lt_of_lt_of_le hk WZ.out) (fun e => by have := (or_row O8.out e.symm).1; omega), G8.out.block k (Nat.lt_of_lt_of_le hk GG.out.size) hne, GG.out.block k hk hne]
       have O9 := hid hO9; clear hO9 hg9 ne9 z0 z1 z2 z3 z4 z5 O8 S8 G8 B8 OO GG
       go_wp2
       go_roundw
       case rel => exact ⟨i + 1, _, L ++ [⟨(7 * r), ky, wd, (R13 : Int), ⟨#[]⟩, (R15 : Int)⟩], p8, by omega, by go_num, rfl, by rw [List.length_append, LL.out]; rfl, O9.out, S9.out, by omega, G9.out, PL.out.snoc ⟨Nat.le_trans KZ.out (by decide), Nat.le_trans TZ.out (by decide), by show ((R13 : Nat) : Int) ≤ 1000; have := QZ.out; omega⟩⟩
       case measure => simp [intOf]; omega
      | false =>
       obtain ⟨w8, hw8⟩ : ∃ W, W = w7 := ⟨_, rfl⟩; obtain ⟨p8, hp8⟩ : ∃ x, x = p6 + 1 := ⟨_, rfl⟩; have S8 : Hid (Src W0 w8 c a len cap p8) := by rw [hw8, hp8]; exact S7.out
       have G8 : Hid (wr.grownBy w8 (some c)) := by rw [hw8]; exact G7.out
       have B8 : Hid (RA w8 XB 39 #[.int .i64 kd, .string ky, .string wd, .int .i64 (R13 : Int), .string ⟨#[]⟩, .int .i64 (R15 : Int)]) := by rw [hw8]; exact B7.out
       rw [← hw8]; clear hw8 S7 G7 B7; have O8 : Hid (w8.ownsRow w.heap.size 39 6 v L.length (toL L)) := or_keep OO.out fun g cs e r => (G8.out.block g r.lt (fun e2 => by have := (or_row OO.out e).1; have := CW.out; cases e2; omega)).trans r; have z0 := B8.out.cell 0; have z1 := B8.out.cell 1; have z2 := B8.out.cell 2; have z3 := B8.out.cell 3; have z4 := B8.out.cell 4; have z5 := B8.out.cell 5; have WZ : Hid (w.heap.size ≤ w8.heap.size) := Nat.le_trans GG.out.size G8.out.size
       go_wp2_with (at_builtin; refine lockT ?_)
       refine hid ?_; refine append_top w.heap.size w8 rfl (.tmp 58) (.tmp 60) rfl v L ⟨kd, ky, wd, (R13 : Int), ⟨#[]⟩, (R15 : Int)⟩ rfl O8.out WZ.out rfl (by have := LL.out; omega) ?_; intro v9 w9 hO9 hg9; have ne9 : some c ≠ v.ownBlock := fun e => by have := (or_row O8.out e.symm).1; have := CW.out; omega
       have S9 : Hid (Src W0 w9 c a len cap p8) := S8.out.far hg9 ne9 (fun g e => by have := (or_row O8.out e).1; have := S8.out.2.2.2.2; have := CW.out; omega)
       have G9 : Hid (w.grownBy w9 (some c)) := by
        refine ⟨hg9.os.trans (G8.out.os.trans GG.out.os), hg9.tape.trans (G8.out.tape.trans GG.out.tape), hg9.output.trans (G8.out.output.trans GG.out.output), Nat.le_trans GG.out.size (Nat.le_trans G8.out.size hg9.size), fun k hk hne => ?_⟩; rw [hg9.block k (Nat.lt_of_lt_of_le hk WZ.out) (fun e => by have := (or_row O8.out e.symm).1; omega), G8.out.block k (Nat.lt_of_lt_of_le hk GG.out.size) hne, GG.out.block k hk hne]
       have O9 := hid hO9; clear hO9 hg9 ne9 z0 z1 z2 z3 z4 z5 O8 S8 G8 B8 OO GG
       go_wp2
       go_roundw
       case rel => exact ⟨i + 1, _, L ++ [⟨kd, ky, wd, (R13 : Int), ⟨#[]⟩, (R15 : Int)⟩], p8, by omega, by go_num, rfl, by rw [List.length_append, LL.out]; rfl, O9.out, S9.out, by omega, G9.out, PL.out.snoc ⟨Nat.le_trans KZ.out (by decide), Nat.le_trans TZ.out (by decide), by show ((R13 : Nat) : Int) ≤ 1000; have := QZ.out; omega⟩⟩
       case measure => simp [intOf]; omega
  · have d0 : ¬ (i : Int) < (n : Int) := by omega
    obtain rfl : i = n := by omega
    go_wp2
    go_ret
    exact ⟨⟨_, rfl, L, LL.out, OO.out, PL.out⟩, ⟨p1, SS.out, hp1⟩, GG.out⟩
end Go.Proofs.YtcbmgpdpjagaoaaGreat
namespace Go.Proofs.YtcbmgpdpjagaoaaGreat
open Go.RowKit
set_option linter.unusedVariables false
theorem toL_at : ∀ (L : List TOp) (k : Nat) (h : k < L.length), (toL L)[k * 6]? = some (.int .i64 (L[k]'h).kd) ∧ (toL L)[k * 6 + 1]? = some (.string (L[k]'h).ky) ∧ (toL L)[k * 6 + 2]? = some (.string (L[k]'h).tx) ∧ (toL L)[k * 6 + 3]? = some (.int .i64 (L[k]'h).sq) ∧ (toL L)[k * 6 + 4]? = some (.string (L[k]'h).til) ∧ (toL L)[k * 6 + 5]? = some (.int .i64 (L[k]'h).lm)
 | [], k, h => by simp at h
 | e :: L, 0, h => ⟨rfl, rfl, rfl, rfl, rfl, rfl⟩
 | e :: L, k + 1, h => by
  have q := toL_at L k (by simpa using h); have e1 : toL (e :: L) = .int .i64 e.kd :: .string e.ky :: .string e.tx :: .int .i64 e.sq :: .string e.til :: .int .i64 e.lm :: toL L := rfl; rw [e1, show (k + 1) * 6 = k * 6 + 1 + 1 + 1 + 1 + 1 + 1 by omega]; simp only [List.getElem?_cons_succ, List.getElem_cons_succ]; exact q
theorem own_tops {w : World} {base : Nat} {v : Value} {L : List TOp} (h : w.ownsRow base 39 6 v L.length (toL L)) : ∃ a c, v = .slice a L.length c ∧ Tops w a L.length c (fun k => L.getD k ⟨0, ⟨#[]⟩, ⟨#[]⟩, 0, ⟨#[]⟩, 0⟩) := by
 rcases h.2 with ⟨h0, h1⟩ | ⟨g, cap, cur, he, hb, hr, hnc, hm, hsz, htk⟩
 · exact ⟨none, 0, by rw [h0, h1], by omega, .inl h1⟩
 · have R : RA w g 39 cur := hr
   refine ⟨some ⟨g, 0, none⟩, cap, he, hnc, .inr ⟨g, 0, rfl, R.lt, fun k hk => ?_⟩⟩
   have e1 : ∀ p, p < L.length * 6 → cur[p]? = (toL L)[p]? := fun p hp => by
    have := congrArg (·[p]?) htk; simp only [List.getElem?_take] at this; rw [if_pos hp, Array.getElem?_toList] at this; exact this
   have q := toL_at L k hk; have gd : L.getD k ⟨0, ⟨#[]⟩, ⟨#[]⟩, 0, ⟨#[]⟩, 0⟩ = L[k]'hk := by rw [List.getD_eq_getElem?_getD, List.getElem?_eq_getElem hk]; rfl
   simp only [Nat.zero_add]; rw [gd, R.cell, R.cell, R.cell, R.cell, R.cell, R.cell, e1 _ (by omega), e1 _ (by omega), e1 _ (by omega), e1 _ (by omega), e1 _ (by omega), e1 _ (by omega)]; exact q
structure TbV (W : World) (base : Nat) (t : Tt) (vF vR : Value) (Q : List (Value × List En)) : Prop where
 fr : OwnEn W base vF t.fr
 rs : W.ownsRow base 25 1 vR Q.length (Q.map Prod.fst)
 ru : ∀ p ∈ Q, OwnEn W base p.1 p.2
 ap : ∀ p ∈ Q, ∀ g, p.1.ownBlock = some g → vF.ownBlock ≠ some g
 eq : Q.map Prod.snd = t.rs
theorem fldT (a b c d e : Value) (w : World) : (Instr.field 35 (.agg #[a, b, c, d, e]) 0).run Tryz.prog w = .ok (.agg #[a, b, c, d]) w := by kernel_rfl
set_option maxRecDepth 20000 in
set_option maxHeartbeats 4000000 in
theorem table_all (W0 w : World) (c : Nat) (a : Option Addr) (len cap p : Nat) (h : Src W0 w c a len cap p) (hp : p ≤ 50000) :
 Calls Tryz.prog 17 #[.pointer (some ⟨c, 0, none⟩)] w fun e w' => (∃ t vF vR Q, e = .returned (.agg #[.int .i64 t.sq, .int .i64 t.fl, vF, vR]) ∧ TOk t ∧ TbV w' w.heap.size t vF vR Q) ∧ (∃ p', Src W0 w' c a len cap p' ∧ p' ≤ p + 20000) ∧ w.grownBy w' (some c) := by
 obtain ⟨W1, hW1⟩ : ∃ W, W = w.alloc (.cells #[.int .i64 0, .int .i64 0, .slice none 0 0, .slice none 0 0] 28) := ⟨_, rfl⟩; have S1 : Hid (Src W0 W1 c a len cap p) := by rw [hW1]; exact h.alloc _
 have G1 : Hid (w.grownBy W1 (some c)) := by rw [hW1]; exact World.grownBy_alloc _ _ _
 have R1 : Hid (RA W1 w.heap.size 28 #[.int .i64 0, .int .i64 0, .slice none 0 0, .slice none 0 0]) := by rw [hW1]; exact RA.new _ _ _
 have CW : Hid (c < w.heap.size) := h.lt; obtain ⟨z, hz, hz0, hz1⟩ := S1.out.1; have zc : W1.cell? ⟨c, 2, none⟩ = some (.int .i64 z) := Blk.cell hz 2 _ rfl; obtain ⟨zn, rfl⟩ := Int.eq_ofNat_of_zero_le hz0; have KN := hid (n_all W0 W1 c a len cap p (10 + 2 * (zn : Int)) S1.out (by omega) (by omega) (by omega)); clear h hz
 go_enter Tryz.func17, Tryz.ntmps17
 go_upto_region 1 with fail
 rw [← hW1]; clear hW1
 go_wp2_with fail
 refine KN.out.mono ?_
 rintro e w2 ⟨⟨r, rfl, hr0, hr1⟩, hs2, hg2⟩
 obtain ⟨rn, rfl⟩ := Int.eq_ofNat_of_zero_le hr0; have G2 := hid (grown_trans G1.out hg2); have R2 := hid (rowF R1.out hg2 CW.out); have Z1 := hid (R1.out.lt); have Z2 : Hid (W1.heap.size ≤ w2.heap.size) := hg2.size; have KO := hid (tops_all W0 w2 c a len cap (p + 1) hs2 rn (by omega) (by omega)); have hrb : rn ≤ 40 := by omega
 clear hs2 hg2 KN zc S1 G1 R1
 go_wp2_with fail
 refine KO.out.mono ?_
 rintro e w3 ⟨⟨v3, L, rfl, hL, hO3, _⟩, ⟨p3, hs3, hp3⟩, hg3⟩
 obtain ⟨a3, c3, hv3, hT3⟩ := own_tops hO3; rw [hL] at hv3 hT3; subst hv3; have G3 := hid (grown_trans G2.out hg3); have R3 := hid (rowF R2.out hg3 CW.out); have Z3 : Hid (w2.heap.size ≤ w3.heap.size) := hg3.size; have KR := hid (sRunTb a3 rn c3 _ (by omega) w3 hT3); have S3 := hid hs3; clear hO3 hs3 hg3 hL hT3 KO R2 G2
 go_wp2_with fail
 refine KR.out.mono ?_; intro e w4 hQ; obtain ⟨⟨t, vF, vR, Q, vO, O, rfl, hRun, hV⟩, hb4⟩ := hQ; have TK : Hid (TOk t) := hRun.ok ⟨by decide, by decide, by decide, by decide, (fun e he => by cases he), (fun e e' he => by cases he)⟩
 obtain ⟨aF, nF, cF, hvF⟩ : ∃ a n c, vF = .slice a n c := by obtain ⟨a, c, h⟩ := hV.fr.slice; exact ⟨a, _, c, h⟩
 obtain ⟨aR, nR, cR, hvR⟩ : ∃ a n c, vR = .slice a n c := by obtain ⟨a, c, h⟩ := or_slice hV.rs; exact ⟨a, _, c, h⟩
 subst hvF hvR; have hfl := fun w => fldT (.int .i64 t.sq) (.int .i64 t.fl) (.slice aF nF cF) (.slice aR nR cR) vO w; have R4 := hid (R3.out.below hb4 R3.out.lt); have S4 := hid (S3.out.belowD hb4); have G4 : Hid (w.grownBy w4 (some c)) := grown_trans G3.out (below_grown hb4 _); have bs : w.heap.size ≤ w3.heap.size := by have := Z1.out; have := Z2.out; have := Z3.out; omega
 have V4 : Hid (TbV w4 w.heap.size t (.slice aF nF cF) (.slice aR nR cR) Q) := ⟨OwnEn.baseUp hV.fr bs, or_baseUp hV.rs bs, fun p hp => OwnEn.baseUp (hV.ru p hp) bs, hV.ap, hV.eq⟩; clear hRun hV hb4 KR R3 S3 G3
 go_wp2_with (refine wpList_store_row rfl 28 (.tmp 2) (.tmp 15) rfl w.heap.size #[.int .i64 t.sq, .int .i64 t.fl, .slice aF nF cF, .slice aR nR cR] rfl rfl _ _ R4.out (by kernel_rfl) rfl (by simp [Value.oneCell']) ?_)
 have ok : ∀ {g ty cs}, RA w4 g ty cs → ty ≠ 28 → RA (w4.setRow w.heap.size #[.int .i64 t.sq, .int .i64 t.fl, .slice aF nF cF, .slice aR nR cR]) g ty cs := fun {g ty cs} r hne => r.otherRow _ _ (row_ne r R4.out hne); refine bodyPost_ret (v := .agg #[.int .i64 t.sq, .int .i64 t.fl, .slice aF nF cF, .slice aR nR cR]) ?_ rfl ⟨⟨t, _, _, Q, rfl, TK.out, ?_⟩, ⟨p3, S4.out.setRowD CW.out _, by omega⟩, grown_setRowD G4.out (Nat.le_refl _) _⟩
 · exact results_cell_row Tryz.results17 _ _ w.heap.size _ _ _ _ rfl (R4.out.setRow _) Tryz.underlying28 rfl (by kernel_rfl)
 · exact ⟨V4.out.fr.keep fun g cs e r => ok r (by decide), or_keep V4.out.rs fun g cs e r => ok r (by decide), fun p hp => (V4.out.ru p hp).keep fun g cs e r => ok r (by decide), V4.out.ap, V4.out.eq⟩
end Go.Proofs.YtcbmgpdpjagaoaaGreat
