import Derived.Test.YtcbmgpdpjagaoaaGreatDkN
import Derived.Test.YtcbmgpdpjagaoaaGreatITab
namespace Go.Proofs.YtcbmgpdpjagaoaaGreat
open Go.RowKit Go.Shelf Go.Maps
set_option linter.unusedVariables false
structure RtU (W : World) (base : Nat) (t : Tt) (vF vR : Value) (Q : List (Value × List En)) (vO : Value) (O : List (Ot × Value)) : Prop where
 fr : OwnEn W base vF t.fr
 rs : W.ownsRow base 25 1 vR Q.length (Q.map Prod.fst)
 ru : ∀ p ∈ Q, OwnEn W base p.1 p.2
 eq : Q.map Prod.snd = t.rs
 ou : W.ownsRow base 41 3 vO O.length (ouL O)
 oe : ∀ p ∈ O, OwnEn W base p.2 p.1.en
def RtR (w : World) (t0 : Tt) (o : Nat → TOp) (n : Nat) (e : Ending) (w' : World) : Prop := (∃ t vF vR Q vO O, e = .returned (.agg #[.int .i64 t.sq, .int .i64 t.fl, vF, vR, vO]) ∧ Rns8 o t0 n t (O.map Prod.fst) ∧ RtU w' w.heap.size t vF vR Q vO O) ∧ Below w.heap.size w w'
theorem KD.below2 {B : Nat} {w W W' : World} (h : KD B W W') (hB : w.heap.size ≤ B) (hb : Below w.heap.size w W) : Below w.heap.size w W' := ⟨h.os.trans hb.os, h.tape.trans hb.tape, h.output.trans hb.output, Nat.le_trans hb.size h.size, fun j hj => (h.low j (by omega)).trans (hb.block j hj)⟩
theorem Dk.grownT {W W1 : World} {B d mb b k n : Nat} {t : Tt} {D : DataW En} {L : List En} {vS : Value} {S : List En} {vR : Value} {Q : List (Value × List En)} {v : Value} {cs : List Value} {ty : TypeId} (h : Dk W B d mb t D L vS S vR Q) (ho : W.ownsRow b ty k v n cs) (hg : W.grownBy W1 v.ownBlock) (h1 : ty ≠ 79) (h2 : ty ≠ 46) (h3 : ty ≠ 25) : Dk W1 B d mb t D L vS S vR Q := by
 have ok : ∀ {g ty' cs'}, RA W g ty' cs' → ty' ≠ ty → RA W1 g ty' cs' := fun {g ty' cs'} r hne => grown_row ho hg r hne; exact ⟨ok h.row h1.symm, mapAt h.map (hg.block mb h.map.lt fun e => by obtain ⟨_, _, cs', r'⟩ := or_row ho e.symm; exact row_not_map r' h.map rfl), h.fr, h.mem, h.srt, h.so.keep fun g cs _ r => ok r h2.symm, h.sk, or_keep h.rs fun g cs _ r => ok r h3.symm, fun p hp => (h.ru p hp).keep fun g cs _ r => ok r h2.symm, h.eq, h.bd⟩
theorem DkW.grownT {W W1 : World} {B d b k n : Nat} {t : Tt} {v : Value} {cs : List Value} {ty : TypeId} (h : DkW W B d t) (ho : W.ownsRow b ty k v n cs) (hg : W.grownBy W1 v.ownBlock) (h1 : ty ≠ 79) (h2 : ty ≠ 46) (h3 : ty ≠ 25) : DkW W1 B d t := by
 obtain ⟨mb, D, L, vS, S, vR, Q, hD, hl⟩ := h; exact ⟨mb, D, L, vS, S, vR, Q, hD.grownT ho hg h1 h2 h3, hl⟩
theorem mk_outs (w : World) (n : Nat) (hn : n ≤ 1048576) : (Instr.makeSlice 33 (.int .i64 0) (.int .i64 n)).run Tryz.prog w = .ok (.slice (some ⟨w.heap.size, 0, none⟩) 0 n) (w.alloc (.cells (madeCells #[.int .i64 0, .string ⟨#[]⟩, .slice none 0 0] (n * 3)) 41)) := by
 obtain ⟨i0, hi, hz0, hz1, hz2⟩ := info_parts Tryz.infoOu8; have := run_make (P := Tryz.prog) w 33 41 i0 (.agg #[.int .i64 0, .string ⟨#[]⟩, .slice none 0 0]) Tryz.underlying33 hi hz0 .i64 .i64 0 n (by omega) (by omega) (by rw [hz2]; omega) (by omega); rw [this, hz1]
 simp [Value.cells]
theorem rt_ret {W' : World} {X : Nat} {v1 v2 v3 v4 v5 : Value} {P : Ending → World → Prop} {tm : Array Value} (sa : RA W' X 35 #[v1, v2, v3, v4, v5]) (so : P (.returned (.agg #[v1, v2, v3, v4, v5])) W') (h2 : tm.getD 4 undef = .pointer (some ⟨X, 0, none⟩)) :
 bodyPost Tryz.prog Tryz.f7 P Exit.ret { tmps := tm, defers := [] } W' := by
 refine bodyPost_ret (v := .agg #[v1, v2, v3, v4, v5]) ?_ rfl so; exact results_cell_row Tryz.results7 _ _ X _ _ _ _ h2 sa Tryz.underlying35 rfl (by kernel_rfl)
set_option maxRecDepth 20000 in
set_option maxHeartbeats 8000000 in
theorem iRunT_no (s f : Int) (a0 : Option Addr) (n0 c0 : Nat) (o0 : Nat → En) (ar : Option Addr) (m cap : Nat) (R : Nat → Rn) (hn : n0 ≤ 1048576) (hm : m ≤ 1048576) (hc : cntR R m + n0 ≤ 1048576) (hs : ∀ k, k < n0 → (o0 k).ky.size ≤ 1048576 ∧ (o0 k).tx.size ≤ 1048576) (hz : RnSz R m) (ad : Option Addr) (n cp : Nat) (hl : n ≤ 2000) (ht : ¬ tabOk s f n0 o0 m R) (w : World) (h0 : Ens w a0 n0 c0 o0) (h : Rns w ar m cap R) (hA : RnA w ar m cap R) :
 Calls Tryz.prog 7 #[.agg #[.int .i64 s, .int .i64 f, .slice a0 n0 c0, .slice ar m cap], .slice ad n cp] w fun e w' => e = .returned (.agg #[.int .i64 0, .int .i64 0, .slice none 0 0, .slice none 0 0, .slice none 0 0]) ∧ Below w.heap.size w w' := by
 obtain ⟨W1, hW1⟩ : ∃ W, W = (w.alloc (.cells #[.int .i64 s, .int .i64 f, .slice a0 n0 c0, .slice ar m cap] 28)).alloc (.cells #[.int .i64 0, .int .i64 0, .slice none 0 0, .slice none 0 0, .slice none 0 0] 35) := ⟨_, rfl⟩; have B1 : Hid (Below w.heap.size w W1) := by rw [hW1]; exact balEn (balEn (Below.refl _ _) _) _
 have T1 : Hid (RA W1 w.heap.size 28 #[.int .i64 s, .int .i64 f, .slice a0 n0 c0, .slice ar m cap]) := by rw [hW1]; exact (RA.new _ _ _).alloc _
 have X1 : Hid (RA W1 (w.heap.size + 1) 35 #[.int .i64 0, .int .i64 0, .slice none 0 0, .slice none 0 0, .slice none 0 0]) := by rw [hW1]; exact RA.next _ _ _ (by rw [size_al])
 have K0 := hid (iTabG s f a0 n0 c0 o0 ar m cap R hn hm hc hs hz W1 (h0.below B1.out) (h.below B1.out) (hA.below B1.out)); rw [tabV_no ht] at K0; have r0 := T1.out.cell 0; have r1 := T1.out.cell 1; have r2 := T1.out.cell 2; have r3 := T1.out.cell 3; have dn : ¬ (2000 : Int) < (n : Int) := by omega
 have dn2 : decide ((2000 : Int) < (n : Int)) = false := by simp; omega
 clear ht h0 h hA hs hz hc
 go_enter Tryz.func7, Tryz.ntmps7
 go_upto_region 1 with fail
 rw [← hW1]; clear hW1
 go_wp2_with fail
 refine K0.out.mono ?_
 rintro e w2 ⟨rfl, hb2⟩
 have X2 := hid (X1.out.below hb2 X1.out.lt); have B2 := hid (B1.out.trans (hb2.mono B1.out.size)); clear hb2 K0 r0 r1 r2 r3
 go_wp2_with (refine wpList_store_row rfl 35 (.tmp 4) (.tmp 17) rfl (w.heap.size + 1) #[.int .i64 0, .int .i64 0, .slice none 0 0, .slice none 0 0, .slice none 0 0] rfl rfl _ _ X2.out (by kernel_rfl) rfl (by simp [Value.oneCell']) ?_)
 exact rt_ret (X2.out.setRow _) ⟨rfl, below_setRow B2.out _ _ (Nat.le_succ _)⟩ rfl
set_option maxRecDepth 20000 in
set_option maxHeartbeats 16000000 in
theorem iRunT_ok (s f : Int) (a0 : Option Addr) (n0 c0 : Nat) (o0 : Nat → En) (ar : Option Addr) (m cap : Nat) (R : Nat → Rn) (ad : Option Addr) (n cp : Nat) (o : Nat → TOp) (hl : n ≤ 2000) (ho : ∀ k, k < n → (o k).ky.size ≤ 100000 ∧ (o k).til.size ≤ 100000 ∧ (o k).sq ≤ 9223372036854775807) (ht : tabOk s f n0 o0 m R) (w : World) (h0 : Ens w a0 n0 c0 o0) (h : Rns w ar m cap R) (hA : RnA w ar m cap R) (hT : Tops w ad n cp o) :
 Calls Tryz.prog 7 #[.agg #[.int .i64 s, .int .i64 f, .slice a0 n0 c0, .slice ar m cap], .slice ad n cp] w fun e w' => RtR w (ttOf s f n0 o0 m R) o n e w' := by
 obtain ⟨W1, hW1⟩ : ∃ W, W = (w.alloc (.cells #[.int .i64 s, .int .i64 f, .slice a0 n0 c0, .slice ar m cap] 28)).alloc (.cells #[.int .i64 0, .int .i64 0, .slice none 0 0, .slice none 0 0, .slice none 0 0] 35) := ⟨_, rfl⟩; have B1 : Hid (Below w.heap.size w W1) := by rw [hW1]; exact balEn (balEn (Below.refl _ _) _) _
 have T1 : Hid (RA W1 w.heap.size 28 #[.int .i64 s, .int .i64 f, .slice a0 n0 c0, .slice ar m cap]) := by rw [hW1]; exact (RA.new _ _ _).alloc _
 have X1 : Hid (RA W1 (w.heap.size + 1) 35 #[.int .i64 0, .int .i64 0, .slice none 0 0, .slice none 0 0, .slice none 0 0]) := by rw [hW1]; exact RA.next _ _ _ (by rw [size_al])
 have hm20 : m ≤ 20 := ht.1.2.2.2; have hcn : cntR R m + n0 ≤ 1000 := ht.2.2.2.1; have hTS := tab_sz ht; have K0 := hid (iTabG s f a0 n0 c0 o0 ar m cap R (by omega) (by omega) (by omega) hTS.2 hTS.1 W1 (h0.below B1.out) (h.below B1.out) (hA.below B1.out)); rw [tabV_ok ht] at K0; have KN := fun wx (hx : Below w.heap.size w wx) => hid (iNewD s f a0 n0 c0 o0 ar m cap R ht wx (h0.below hx) (h.below hx)); obtain ⟨t0, ht0⟩ : ∃ x, x = ttOf s f n0 o0 m R := ⟨_, rfl⟩; have HTB : Hid (TbOk t0) := by show TbOk t0; rw [ht0]; exact tb_of_tab ht
 rw [← ht0] at KN ⊢; have HO := hid hT; have HP := hid ho; have r0 := T1.out.cell 0; have r1 := T1.out.cell 1; have r2 := T1.out.cell 2; have r3 := T1.out.cell 3; have dn : ¬ (2000 : Int) < (n : Int) := by omega
 have dn2 : decide ((2000 : Int) < (n : Int)) = false := by simp; omega
 have hmk := fun wx => mk_outs wx n (by omega); clear ht h0 h hA ht0 hT ho hTS
 go_enter Tryz.func7, Tryz.ntmps7
 go_upto_region 1 with fail
 rw [← hW1]; clear hW1
 go_wp2_with fail
 refine K0.out.mono ?_
 rintro e w2 ⟨rfl, hb2⟩
 have T2 := hid (T1.out.below hb2 T1.out.lt); have X2 := hid (X1.out.below hb2 X1.out.lt); have B2 := hid (B1.out.trans (hb2.mono B1.out.size)); clear hb2 K0 r0 r1 r2 r3 T1 X1 B1; have r0 := T2.out.cell 0; have r1 := T2.out.cell 1; have r2 := T2.out.cell 2; have r3 := T2.out.cell 3
 go_wp2_with fail
 refine (KN w2 B2.out).out.mono ?_
 rintro e w3 ⟨⟨d, rfl, hD3⟩, hb3⟩
 obtain ⟨Bd, hBd⟩ : ∃ x, x = w2.heap.size := ⟨_, rfl⟩; have HBd : Hid (w.heap.size ≤ Bd) := by show _ ≤ _; rw [hBd]; exact B2.out.size
 have HB3 : Hid (Bd ≤ w3.heap.size) := by show _ ≤ _; rw [hBd]; exact hb3.size
 rw [← hBd] at hD3; have X3 := hid (X2.out.below hb3 X2.out.lt); have B3 := hid (B2.out.trans (hb3.mono B2.out.size)); have D3 := hid hD3; clear hb3 hBd hD3 T2 X2 B2 KN r0 r1 r2 r3; obtain ⟨W4, hW4⟩ : ∃ W4, W4 = w3.alloc (.cells (madeCells #[.int .i64 0, .string ⟨#[]⟩, .slice none 0 0] (n * 3)) 41) := ⟨_, rfl⟩; have b4 : Below w3.heap.size w3 W4 := by rw [hW4]; exact (Below.refl _ _).alloc (Nat.le_refl _) _
 have O4 : Hid (W4.ownsRow w.heap.size 41 3 (.slice (some ⟨w3.heap.size, 0, none⟩) 0 n) 0 []) := by rw [hW4]; exact World.ownsRow_made w3 _ n B3.out.size (by unfold maxLen; omega) (by simp [madeCells])
 have X4 := hid (X3.out.below b4 X3.out.lt); have B4 := hid (B3.out.trans (b4.mono B3.out.size)); have D4 := hid (D3.out.below b4); have HB4 : Hid (Bd ≤ W4.heap.size) := Nat.le_trans HB3.out b4.size; obtain ⟨g4, hg4⟩ : ∃ x, x = w3.heap.size := ⟨_, rfl⟩; rw [← hg4] at O4; have HW4 := hid hW4; clear hW4
 go_upto_region 5 with fail
 rw [← HW4.out, ← hg4]; clear HW4 hg4 b4 X3 B3 D3 HB3 hmk
 go_wp2_with fail
 go_loopw [6, 25] (fun v q wr => ∃ (i : Nat) (t : Tt) (V : Value) (O : List (Ot × Value)), i ≤ n ∧ V = v ∧ q = .int .i64 (i : Int) ∧ Rns8 o t0 i t (O.map Prod.fst) ∧ DkW wr Bd d t ∧ wr.ownsRow w.heap.size 41 3 V O.length (ouL O) ∧ (∀ p ∈ O, OwnEn wr w.heap.size p.2 p.1.en) ∧ RA wr (w.heap.size + 1) 35 #[.int .i64 0, .int .i64 0, .slice none 0 0, .slice none 0 0, .slice none 0 0] ∧ Below w.heap.size w wr ∧ Bd ≤ wr.heap.size) (fun _ q _ => n - (intOf q).toNat)
 case atStart => exact ⟨0, _, _, [], Nat.zero_le _, rfl, rfl, .zero, D4.out, O4.out, (fun p hp => by cases hp), X4.out, B4.out, HB4.out⟩
 case round =>
  obtain ⟨i, t, V, O, hi, rfl, rfl, hRun, hD, hO, hU, hX, hB, hS⟩ := hrel; have RUN := hid hRun; have D5 := hid hD; have O5 := hid hO; have U5 := hid hU; have X5 := hid hX; have B5 := hid hB; have S5 := hid hS; obtain ⟨av, cv, hv⟩ := or_slice hO; obtain ⟨nv, hnv⟩ : ∃ x, x = O.length := ⟨_, rfl⟩; rw [← hnv] at hv; have OL : Hid (O.length ≤ 2000) := by show _ ≤ _; have := hRun.len; rw [List.length_map] at this; omega
  clear hRun hD hO hU hX hB hS hnv D4 O4 X4 B4 HB4; subst hv
  by_cases hlt : i < n
  · have d0 : (i : Int) < (n : Int) := by omega
    have i0 : (0 : Int) ≤ (i : Int) := by omega
    rcases (HO.out.below B5.out).2 with h00 | ⟨bo, off, rfl, hbl, hcc⟩
    · omega
    obtain ⟨x0, x1, x2, x3, x4, x5⟩ := hcc i hlt; have hpp := HP.out i hlt; have TT := hid (RUN.out.tb HTB.out); obtain ⟨OP, hOP⟩ : ∃ OP, OP = o i := ⟨_, rfl⟩; rw [← hOP] at x0 x1 x2 x3 x4 x5 hpp; have HOP := hid hOP; clear hcc hOP; obtain ⟨W6, hW6⟩ : ∃ W, W = wr.alloc (.cells #[.int .i64 OP.kd, .string OP.ky, .string OP.tx, .int .i64 OP.sq, .string OP.til, .int .i64 OP.lm] 39) := ⟨_, rfl⟩; have b6 : Below wr.heap.size wr W6 := by rw [hW6]; exact (Below.refl _ _).alloc (Nat.le_refl _) _
    have P6 : Hid (RA W6 wr.heap.size 39 #[.int .i64 OP.kd, .string OP.ky, .string OP.tx, .int .i64 OP.sq, .string OP.til, .int .i64 OP.lm]) := by rw [hW6]; exact RA.new _ _ _
    have KD6 := hid (iDo Bd d t TT.out OP hpp.1 hpp.2.1 hpp.2.2 W6 (D5.out.below b6) (Nat.le_trans S5.out b6.size)); have O6 := hid (or_keep O5.out fun g cs _ r => r.below b6 r.lt); have U6 : Hid (∀ p ∈ O, OwnEn W6 w.heap.size p.2 p.1.en) := fun p hp => (U5.out p hp).below b6; have X6 := hid (X5.out.below b6 X5.out.lt); have B6 := hid (B5.out.trans (b6.mono B5.out.size)); have S6 : Hid (Bd ≤ W6.heap.size) := Nat.le_trans S5.out b6.size; clear b6 D5 O5 U5 X5 B5 S5 hpp TT
    go_upto_region 8 with ((refine wpList_store_row rfl 39 (.tmp 8) (.tmp 28) rfl wr.heap.size #[.int .i64 OP.kd, .string OP.ky, .string OP.tx, .int .i64 OP.sq, .string OP.til, .int .i64 OP.lm] rfl rfl _ _ (RA.new wr _ _) (by kernel_rfl) rfl (by simp [Value.oneCell']) ?_); rw [World.setRow_alloc_new])
    rw [← hW6]; clear hW6 x0 x1 x2 x3 x4 x5; have p0 := P6.out.cell 0; have p1 := P6.out.cell 1; have p2 := P6.out.cell 2; have p3 := P6.out.cell 3; have p4 := P6.out.cell 4; have p5 := P6.out.cell 5
    go_wp2_with fail
    refine KD6.out.mono ?_
    rintro e w7 ⟨⟨t7, u7, v7, rfl, hs7, hE7, hD7⟩, hK7⟩
    obtain ⟨a7, c7, hv7⟩ := hE7.slice; obtain ⟨n7, hn7⟩ : ∃ x, x = u7.en.length := ⟨_, rfl⟩; rw [← hn7] at hv7; subst hv7; have ST7 := hid hs7; have E7 := hid (hE7.baseUp HBd.out); have D7 := hid hD7; have O7 := hid (or_keep O6.out fun g cs _ r => hK7.row _ _ _ r (by decide) (by decide)); have U7 : Hid (∀ p ∈ O, OwnEn w7 w.heap.size p.2 p.1.en) := fun p hp => hK7.own (U6.out p hp); have X7 := hid (hK7.row _ _ _ X6.out (by decide) (by decide)); have B7 := hid (hK7.below2 HBd.out B6.out); have S7 : Hid (Bd ≤ w7.heap.size) := Nat.le_trans S6.out hK7.size; clear hs7 hE7 hD7 hK7 hn7 KD6 P6 p0 p1 p2 p3 p4 p5 O6 U6 X6 B6 S6
    go_wp2_with (at_builtin; refine lockH8 ?_)
    refine hid ?_; refine append_out w.heap.size w7 rfl (.tmp 29) (.tmp 33) rfl (.slice av nv cv) O (u7, .slice a7 n7 c7) rfl O7.out B7.out.size rfl rfl (by have := OL.out; omega) ?_; intro v8 w8 hO8 hg8; obtain ⟨a8, c8, hv8⟩ := or_slice hO8; obtain ⟨n8, hn8⟩ : ∃ x, x = (O ++ [((u7, .slice a7 n7 c7) : Ot × Value)]).length := ⟨_, rfl⟩; rw [← hn8] at hv8; clear hn8; subst hv8; have O8 := hid hO8
    have U8 : Hid (∀ p ∈ O ++ [((u7, .slice a7 n7 c7) : Ot × Value)], OwnEn w8 w.heap.size p.2 p.1.en) := fun p hp => by
     rcases List.mem_append.1 hp with hp | hp
     · exact (U7.out p hp).keep fun g cs _ r => grown_row O7.out hg8 r (by decide)
     · rw [List.mem_singleton] at hp
       subst hp; exact E7.out.keep fun g cs _ r => grown_row O7.out hg8 r (by decide)
    have X8 := hid (grown_row O7.out hg8 X7.out (by decide)); have D8 := hid (D7.out.grownT O7.out hg8 (by decide) (by decide) (by decide)); have B8 : Hid (Below w.heap.size w w8) := B7.out.grown hg8 B7.out.size (fun g e => (or_row O7.out e).1); have S8 : Hid (Bd ≤ w8.heap.size) := Nat.le_trans S7.out hg8.size; clear hO8 hg8 O7 U7 X7 D7 B7 S7 E7
    go_wp2
    go_roundw
    case rel => exact ⟨i + 1, t7, _, _, by omega, rfl, by go_num, by rw [List.map_append]; exact RUN.out.next (by rw [← HOP.out]; exact ST7.out), D8.out, O8.out, U8.out, X8.out, B8.out, S8.out⟩
    case measure => simp [intOf]; omega
  · have d0 : ¬ (i : Int) < (n : Int) := by omega
    have hin : i = n := by omega
    have RUN2 : Hid (Rns8 o t0 n t (O.map Prod.fst)) := by rw [← hin]; exact RUN.out
    have hTt := RUN2.out.tb HTB.out; obtain ⟨mb, D, L, vS, S, vR, Q, hD, hSL⟩ := D5.out; obtain ⟨aR, cR, hvR⟩ := or_slice hD.rs; obtain ⟨nR, hnR⟩ : ∃ x, x = Q.length := ⟨_, rfl⟩; rw [← hnR] at hvR; subst hvR; have KT := hid (iTable Bd d mb t D L vS S _ Q (by rw [hD.len]; exact hTt.frl) hTt.frnd wr hD S5.out); clear hin hTt hD hSL hnR D5 RUN
    go_wp2_with fail
    refine KT.out.mono ?_
    rintro e w9 ⟨⟨v9, rfl, hD9⟩, hK9⟩
    obtain ⟨a9, c9, hv9⟩ := hD9.so.slice; obtain ⟨n9, hn9⟩ : ∃ x, x = t.fr.length := ⟨_, rfl⟩; rw [← hn9] at hv9; subst hv9; have X9 := hid (hK9.row _ _ _ X5.out (by decide) (by decide)); have V9 : Hid (RtU w9 w.heap.size t (.slice a9 n9 c9) (.slice aR nR cR) Q (.slice av nv cv) O) := ⟨hD9.so.baseUp HBd.out, or_up8 hD9.rs HBd.out, fun p hp => (hD9.ru p hp).baseUp HBd.out, hD9.eq, or_keep O5.out fun g cs _ r => hK9.row _ _ _ r (by decide) (by decide), fun p hp => hK9.own (U5.out p hp)⟩; have B9 := hid (hK9.below2 HBd.out B5.out); clear hD9 hK9 hn9 KT O5 U5 X5 B5 S5
    go_wp2_with (refine wpList_store_row rfl 35 (.tmp 4) (.tmp 39) rfl (w.heap.size + 1) #[.int .i64 t.sq, .int .i64 t.fl, .slice a9 n9 c9, .slice aR nR cR, .slice av nv cv] rfl rfl _ _ X9.out (by kernel_rfl) rfl (by simp [Value.oneCell']) ?_)
    have ok : ∀ {g ty cs}, RA w9 g ty cs → ty ≠ 35 → RA (w9.setRow (w.heap.size + 1) #[.int .i64 t.sq, .int .i64 t.fl, .slice a9 n9 c9, .slice aR nR cR, .slice av nv cv]) g ty cs := fun {g ty cs} r hne => r.otherRow _ _ (row_ne r X9.out hne); exact rt_ret (X9.out.setRow _) ⟨⟨t, _, _, Q, _, O, rfl, RUN2.out, ⟨V9.out.fr.keep fun g cs _ r => ok r (by decide), or_keep V9.out.rs fun g cs _ r => ok r (by decide), fun p hp => (V9.out.ru p hp).keep fun g cs _ r => ok r (by decide), V9.out.eq, or_keep V9.out.ou fun g cs _ r => ok r (by decide), fun p hp => (V9.out.oe p hp).keep fun g cs _ r => ok r (by decide)⟩⟩, below_setRow B9.out _ _ (Nat.le_succ _)⟩ rfl
end Go.Proofs.YtcbmgpdpjagaoaaGreat
