import Derived.Test.YtcbmgpdpjagaoaaGreatE1
import Derived.Test.YtcbmgpdpjagaoaaGreatT1
namespace Go.Proofs.YtcbmgpdpjagaoaaGreat
open Go.RowKit
set_option linter.unusedVariables false
theorem step_append_run {ops : Array Oper} {o : Oper} {a : Act} {K : Act → World → Prop} {Q' : Exit → Act → World → Prop} {E : Prop} (base : Nat) (w : World) (hgd : o.guard = none) (s x : Operand)
 (ho : o.op = .call { callee := .builtin .append, args := #[s, x], argTypes := #[26, 26] })
 (v : Value) (Q : List (Value × List En)) (p : Value × List En) (n : Nat) (hn : n = Q.length + 1) (hs : a.eval s = v) (hown : w.ownsRow base 25 1 v Q.length (Q.map Prod.fst)) (hsz : base ≤ w.heap.size)
 (b : Nat) (hbox : RA w b 25 #[p.1]) (hx : a.eval x = .slice (some ⟨b, 0, none⟩) 1 1) (h1c : p.1.oneCell' = true) (hlen : Q.length ≤ 1048576)
 (h : ∀ g cap w', w'.ownsRow base 25 1 (.slice (some ⟨g, 0, none⟩) n cap) (Q ++ [p]).length ((Q ++ [p]).map Prod.fst) → w.grownBy w' v.ownBlock → K (a.put o.dst (.slice (some ⟨g, 0, none⟩) n cap)) w') :
 if Region.wanted o (yielded ops a.tmps) = true then Oper.wp Tryz.prog o a w K Q' else E := by
 subst hn; obtain ⟨i0, hi, hz0, hz1, hz2⟩ := info_parts Tryz.infoRn8; refine step_append_lies _ hgd s x 26 ho base 25 i0 _ 1 24 Tryz.underlying26 hi hz0 hz1 hz2 rfl (by decide) v Q.length _ hs hown ⟨b, 0, none⟩ 1 1 [p.1] hx rfl ?_ ?_ (by decide) ?_ ?_ hsz w.heap.size rfl ?_
 · intro j u hj
   match j, hj with
   | 0, hj => simp at hj; subst hj; exact hbox.cell 0
 · intro u hu; simp at hu; rw [hu]; exact h1c
 · unfold maxLen; omega
 · omega
 · intro g cap w' h1 h2 h3 h4
   refine h g cap w' ?_ h2; rw [List.length_append, List.map_append]; exact h1
theorem mkMapP (w : World) : (Instr.makeMap 76 none).run Tryz.prog w = .ok (.map (some w.heap.size)) (w.alloc (.map #[] 0)) := by
 simp [Instr.makeMap]
theorem Dk.newMap {W : World} {B d mb : Nat} {t : Tt} {D : DataW En} {L : List En} {vS : Value} {S : List En} {vR : Value} {Q : List (Value × List En)} (h : Dk W B d mb t D L vS S vR Q) (hB : B ≤ W.heap.size) : Dk ((W.alloc (.map #[] 0)).setCell ⟨d, 2, none⟩ (.map (some W.heap.size))) B d W.heap.size ⟨t.sq, t.fl, [], t.rs⟩ (.map []) [] vS S vR Q := by
 have b : Below W.heap.size W (W.alloc (.map #[] 0)) := (Below.refl _ _).alloc (Nat.le_refl _) _; have h1 := h.below b; have ok : ∀ {g ty cs}, RA (W.alloc (.map #[] 0)) g ty cs → ty ≠ 79 → RA ((W.alloc (.map #[] 0)).setCell ⟨d, 2, none⟩ (.map (some W.heap.size))) g ty cs := fun {g ty cs} r hn => r.other _ _ (row_ne r h1.row hn); have hd : W.heap.size ≠ d := by have := h.row.lt; omega
 exact ⟨h1.row.set 2 _, mapAt (World.ownsMap_made W _ _ _) (Below.heap_setCell _ _ _ _ hd), FrAt.nil, fun e => Iff.rfl, List.Pairwise.nil, h1.so.keep fun g cs _ r => ok r (by decide), fun hh => List.eq_nil_of_length_eq_zero hh, or_keep h1.rs fun g cs _ r => ok r (by decide), fun p hp => (h1.ru p hp).keep fun g cs _ r => ok r (by decide), h1.eq, ⟨h.bd.1, hB⟩⟩
theorem KD.newMap {B d : Nat} {W : World} {cs : Array Value} (h : RA W d 79 cs) (hd : B ≤ d) (hB : B ≤ W.heap.size) (v : Value) : KD B W ((W.alloc (.map #[] 0)).setCell ⟨d, 2, none⟩ v) := by
 have b : Below W.heap.size W (W.alloc (.map #[] 0)) := (Below.refl _ _).alloc (Nat.le_refl _) _; exact (KD.of_below b hB).trans (KD.set (h.below b h.lt) hd _)
theorem Dk.noSort {W : World} {B d mb : Nat} {t : Tt} {D : DataW En} {vS : Value} {S : List En} {vR : Value} {Q : List (Value × List En)} (h : Dk W B d mb ⟨t.sq, t.fl, [], t.rs⟩ D [] vS S vR Q) : Dk (W.setCell ⟨d, 3, none⟩ (.slice none 0 0)) B d mb ⟨t.sq, t.fl, [], t.rs⟩ D [] (.slice none 0 0) [] vR Q := by
 obtain ⟨ok, om⟩ := h.set 3 (.slice none 0 0); exact ⟨h.row.set 3 _, mapAt h.map om, h.fr, h.mem, h.srt, OwnEn.nil _ _, fun _ => rfl, or_keep h.rs fun g cs _ r => ok r (by decide), fun p hp => (h.ru p hp).keep fun g cs _ r => ok r (by decide), h.eq, h.bd⟩
theorem Dk.grownR {W W1 : World} {B d mb : Nat} {t : Tt} {D : DataW En} {L : List En} {vS : Value} {S : List En} {vR : Value} {Q : List (Value × List En)} (h : Dk W B d mb t D L vS S vR Q) (hg : W.grownBy W1 vR.ownBlock) : RA W1 d 79 #[.int .i64 t.sq, .int .i64 t.fl, .map (some mb), vS, vR] ∧ W1.ownsMap Tryz.prog 81 enRd mb L.length D ∧ OwnEn W1 B vS S ∧ ∀ p ∈ Q, OwnEn W1 B p.1 p.2 := by
 have k1 : ∀ {g ty cs}, RA W g ty cs → ty ≠ 25 → RA W1 g ty cs := fun {g ty cs} r hn => (hg.block g r.lt (fun e => by obtain ⟨_, _, cs', r'⟩ := or_row h.rs e.symm; exact row_ne r r' hn rfl)).trans r; refine ⟨k1 h.row (by decide), mapAt h.map (hg.block mb h.map.lt fun e => ?_), h.so.keep fun g cs _ r => k1 r (by decide), fun p hp => (h.ru p hp).keep fun g cs _ r => k1 r (by decide)⟩; obtain ⟨_, _, cs', r'⟩ := or_row h.rs e.symm; exact row_not_map r' h.map rfl
theorem Dk.pushR {W W1 : World} {B d mb : Nat} {t : Tt} {D : DataW En} {L : List En} {vS : Value} {vR vR' : Value} {Q : List (Value × List En)} (h : Dk W B d mb t D L vS t.fr vR Q) (hg : W.grownBy W1 vR.ownBlock) (hr : W1.ownsRow B 25 1 vR' (Q ++ [(vS, t.fr)]).length ((Q ++ [(vS, t.fr)]).map Prod.fst)) : Dk (W1.setCell ⟨d, 4, none⟩ vR') B d mb ⟨t.sq, t.fl, t.fr, t.rs ++ [t.fr]⟩ D L vS t.fr vR' (Q ++ [(vS, t.fr)]) := by
 obtain ⟨g1, g2, g3, g4⟩ := h.grownR hg; have ok : ∀ {g ty cs}, RA W1 g ty cs → ty ≠ 79 → RA (W1.setCell ⟨d, 4, none⟩ vR') g ty cs := fun {g ty cs} r hn => r.other _ _ (row_ne r g1 hn); refine ⟨g1.set 4 _, mapAt g2 (Below.heap_setCell _ _ _ mb (fun e => row_not_map g1 g2 e.symm)), h.fr, h.mem, h.srt, g3.keep fun g cs _ r => ok r (by decide), h.sk, or_keep hr fun g cs _ r => ok r (by decide), fun p hp => ?_, by rw [List.map_append, h.eq]; rfl, h.bd⟩
 rcases List.mem_append.1 hp with hp | hp
 · exact (g4 p hp).keep fun g cs _ r => ok r (by decide)
 · rw [List.mem_singleton] at hp
   subst hp; exact g3.keep fun g cs _ r => ok r (by decide)
set_option maxRecDepth 20000 in
set_option maxHeartbeats 8000000 in
theorem iFlush (B d mb : Nat) (t : Tt) (D : DataW En) (L : List En) (vS : Value) (S : List En) (vR : Value) (Q : List (Value × List En)) (hT : TbOk t) (W : World) (h : Dk W B d mb t D L vS S vR Q) (hB : B ≤ W.heap.size) :
 Calls Tryz.prog 45 #[.pointer (some ⟨d, 0, none⟩)] W fun e W' => (∃ cd t', e = .returned (.int .i64 cd) ∧ (∀ ky tx q til lm, Stp t ⟨3, ky, tx, q, til, lm⟩ t' ⟨cd, ⟨#[]⟩, []⟩) ∧ ∃ mb' D' L' vS' S' vR' Q', Dk W' B d mb' t' D' L' vS' S' vR' Q' ∧ (S.length ≤ L.length → S'.length ≤ L'.length)) ∧ KD B W W' := by
 obtain ⟨aR, cR, hvR, _, _, _, _⟩ := rs_rnA h.rs h.ru; obtain ⟨m, hm⟩ : ∃ x, x = Q.length := ⟨_, rfl⟩; rw [← hm] at hvR; subst hvR; have hm2 : m = t.rs.length := by rw [hm, h.ql]
 have hm20 : m ≤ 20 := by rw [hm2]; exact hT.m
 obtain ⟨NL, hNL⟩ : ∃ x, x = L.length := ⟨_, rfl⟩; have hNF : NL = t.fr.length := by rw [hNL, h.len]
 have hlm := fun ty => h.map.len Tryz.underlying76 ty; rw [h.fr.size, ← hNL] at hlm; have c2 := h.row.cell 2; have c4 := h.row.cell 4; have HD := hid h; have HB0 := hid hB
 by_cases h0 : NL = 0
 · have e1 : ((NL : Int) == 0) = true := by simp; omega
   have ST : Hid (∀ ky tx q til lm, Stp t ⟨3, ky, tx, q, til, lm⟩ t ⟨0, ⟨#[]⟩, []⟩) := fun _ _ _ _ _ => .flush0 rfl (List.eq_nil_of_length_eq_zero (by rw [← hNF]; exact h0)); clear h hB hT hm hm2 hm20 hNL hNF h0
   go_enter Tryz.func45, Tryz.ntmps45
   go_wp2_with fail
   go_ret
   first | exact ⟨⟨_, _, rfl, ST.out, _, _, _, _, _, _, _, HD.out, fun q => q⟩, KD.refl _ _⟩ | exact ⟨⟨_, rfl, _, ST.out, _, _, _, _, _, _, _, HD.out, fun q => q⟩, KD.refl _ _⟩
 · have e1 : ((NL : Int) == 0) = false := by simp; omega
   have hne : t.fr ≠ [] := fun q => h0 (by rw [hNF, q]; rfl)
   by_cases h20 : m = 20
   · have e2 : (20 : Int) ≤ (m : Int) := by omega
     have e3 : decide ((20 : Int) ≤ (m : Int)) = true := by simp; omega
     have ST : Hid (∀ ky tx q til lm, Stp t ⟨3, ky, tx, q, til, lm⟩ t ⟨7, ⟨#[]⟩, []⟩) := fun _ _ _ _ _ => .flushF rfl hne (by rw [← hm2]; exact h20); clear h hB hT hm hm2 hm20 hNL hNF h0 h20 hne
     go_enter Tryz.func45, Tryz.ntmps45
     go_wp2_with fail
     go_ret
     first | exact ⟨⟨_, _, rfl, ST.out, _, _, _, _, _, _, _, HD.out, fun q => q⟩, KD.refl _ _⟩ | exact ⟨⟨_, rfl, _, ST.out, _, _, _, _, _, _, _, HD.out, fun q => q⟩, KD.refl _ _⟩
   · have e2 : ¬ (20 : Int) ≤ (m : Int) := by omega
     have e3 : decide ((20 : Int) ≤ (m : Int)) = false := by simp; omega
     have ST : Hid (∀ ky tx q til lm, Stp t ⟨3, ky, tx, q, til, lm⟩ ⟨t.sq, t.fl, [], t.rs ++ [t.fr]⟩ ⟨0, ⟨#[]⟩, []⟩) := fun _ _ _ _ _ => .flush rfl hne (by rw [← hm2]; exact h20); have hl : L.length ≤ 1000 := by rw [h.len]; exact hT.frl
     have KF := fun wx vS S (hx : Dk wx B d mb t D L vS S (.slice aR m cR) Q) (hb : B ≤ wx.heap.size) => hid (iFresh B d mb t D L vS S (.slice aR m cR) Q hl hT.frnd wx hx hb); have hmk := fun wx => mkMapP wx; have HM := hid hm; have HM20 := hid hm20; clear h hB hT hm hm2 hm20 hNL hNF h0 h20 hne hl
     go_enter Tryz.func45, Tryz.ntmps45
     go_upto_region 5 with fail
     clear c2 hlm e1 e2 e3
     go_cut [] from 17 to 27 (fun wx => (∃ vS' vR' Q', Dk wx B d mb ⟨t.sq, t.fl, t.fr, t.rs ++ [t.fr]⟩ D L vS' t.fr vR' Q') ∧ KD B W wx)
     case first =>
      go_region_law (first
       | (go_simp; go_at_call 49; (first | refine (KF _ _ _ HD.out HB0.out).out.mono ?_ | refine (KF _ _ _ HD.out.drew HB0.out).out.mono ?_); rintro e w1 ⟨⟨v, rfl, hD⟩, hK⟩; obtain ⟨a0, c0, rfl⟩ := hD.so.slice; obtain ⟨n0, hn0⟩ : ∃ x, x = t.fr.length := ⟨_, rfl⟩; rw [← hn0] at hD ⊢; have D1 := hid hD; have K1 : Hid (KD B W w1) := (by first | exact hK | exact (KD.refl B W).drew.trans hK); have HB1 : Hid (B ≤ w1.heap.size) := Nat.le_trans HB0.out hK.size; have d4 : w1.cell? ⟨d, 4, none⟩ = some (.slice aR m cR) := D1.out.row.cell 4; have e4 : (w1.alloc (.cells #[.slice a0 n0 c0] 25)).cell? ⟨d, 4, none⟩ = some (.slice aR m cR) := (D1.out.below ((Below.refl _ _).alloc (Nat.le_refl _) _)).row.cell 4; clear hD hK hn0; dsimp only)
       | (refine step_append_run B _ (by rfl) _ _ (by rfl) (.slice aR m cR) Q (.slice a0 n0 c0, t.fr) (m + 1) (by have := HM.out; omega) (by rfl) (by exact (D1.out.below ((Below.refl _ _).alloc (Nat.le_refl _) (.cells #[.slice a0 n0 c0] 25))).rs) (by exact Nat.le_trans HB1.out ((Below.refl _ w1).alloc (Nat.le_refl _) (.cells #[.slice a0 n0 c0] 25)).size) w1.heap.size (by exact RA.new w1 _ _) (by rfl) (by rfl) (by have := HM.out; have := HM20.out; omega) ?_; intro g7 c7 w7 hO7 hg7; have D6 := D1.out.below ((Below.refl _ _).alloc (Nat.le_refl _) (.cells #[.slice a0 n0 c0] 25)); have G7 := D6.grownR hg7; have P7 := hid (D6.pushR hg7 hO7); have K7 := hid ((K1.out.trans (KD.of_below ((Below.refl _ _).alloc (Nat.le_refl _) (.cells #[.slice a0 n0 c0] 25)) HB1.out)).trans (KD.runs D6.rs hg7 (Nat.le_trans HB1.out ((Below.refl _ w1).alloc (Nat.le_refl _) (.cells #[.slice a0 n0 c0] 25)).size))); have R7 := hid G7.1; have y4 : w7.cell? ⟨d, 4, none⟩ = some (.slice aR m cR) := G7.1.cell 4; have g4 := G7.1.free 4; clear hO7 hg7 G7 D6; dsimp only))
      all_goals go_wp2_with fail
      all_goals go_meet
      all_goals exact ⟨⟨_, _, _, P7.out⟩, K7.out.trans (KD.set R7.out HD.out.bd.1 _)⟩
     case rest =>
      obtain ⟨⟨v5, r5, Q5, hD5⟩, hK5⟩ := hcut; obtain ⟨W5, hW5⟩ : ∃ W5, W5 = wc := ⟨_, rfl⟩; rw [← hW5] at hD5 hK5 ⊢; have D5 := hid hD5; have K5 := hid hK5; clear hD5 hK5 hW5 c4 HD KF; have HB5 : Hid (B ≤ W5.heap.size) := Nat.le_trans HB0.out K5.out.size; have b6 : Below W5.heap.size W5 (W5.alloc (.map #[] 0)) := (Below.refl _ _).alloc (Nat.le_refl _) _; have R6 := (D5.out.below b6).row; have c2 := R6.cell 2; have f2 := R6.free 2; obtain ⟨W6, hW6⟩ : ∃ W6, W6 = (W5.alloc (.map #[] 0)).setCell ⟨d, 2, none⟩ (.map (some W5.heap.size)) := ⟨_, rfl⟩; have D6 : Hid (Dk W6 B d W5.heap.size ⟨t.sq, t.fl, [], t.rs ++ [t.fr]⟩ (.map []) [] v5 t.fr r5 Q5) := by rw [hW6]; exact D5.out.newMap HB5.out
      have K6 : Hid (KD B W W6) := by rw [hW6]; exact K5.out.trans (KD.newMap D5.out.row D5.out.bd.1 HB5.out _)
      obtain ⟨M6, hM6⟩ : ∃ x, x = W5.heap.size := ⟨_, rfl⟩; have HW6 := hid hW6; clear hW6 b6 R6
      go_upto_region 7 with fail
      rw [← HW6.out]; rw [← hM6] at D6 ⊢; clear HW6 c2 f2 hM6 D5 K5 HB5 hmk; have c3 := D6.out.row.cell 3; have f3 := D6.out.row.free 3; obtain ⟨W7, hW7⟩ : ∃ W7, W7 = W6.setCell ⟨d, 3, none⟩ (.slice none 0 0) := ⟨_, rfl⟩; have D7 : Hid (Dk W7 B d M6 ⟨t.sq, t.fl, [], t.rs ++ [t.fr]⟩ (.map []) [] (.slice none 0 0) [] r5 Q5) := by rw [hW7]; exact Dk.noSort (t := ⟨t.sq, t.fl, t.fr, t.rs ++ [t.fr]⟩) D6.out
      have K7 : Hid (KD B W W7) := by rw [hW7]; exact K6.out.trans (KD.set D6.out.row D6.out.bd.1 _)
      have HW7 := hid hW7; clear hW7
      go_upto_region 8 with fail
      rw [← HW7.out]; clear HW7 c3 f3
      go_wp2_with fail
      go_ret
      first | exact ⟨⟨_, _, rfl, ST.out, _, _, _, _, _, _, _, D7.out, fun _ => Nat.le_refl _⟩, K7.out⟩ | exact ⟨⟨_, rfl, _, ST.out, _, _, _, _, _, _, _, D7.out, fun _ => Nat.le_refl _⟩, K7.out⟩
end Go.Proofs.YtcbmgpdpjagaoaaGreat
namespace Go.Proofs.YtcbmgpdpjagaoaaGreat
open Go.RowKit Go.Shelf Go.Maps
def oDkG0 : Oper := { dst := some 16, op := Op.move (Operand.tmp 0), type := 61, pos := "l08_runs.go:352", after := #[], guard := none }
def oDkG1 : Oper := { dst := some 17, op := Op.nilCheck (Operand.tmp 16), type := 0, pos := "l08_runs.go:352", after := #[{ on := 0, ground := Ground.data }], guard := none }
def oDkG2 : Oper := { dst := some 18, op := Op.fieldAddr 79 (Operand.tmp 17) 2, type := 0, pos := "l08_runs.go:352", after := #[{ on := 1, ground := Ground.data }], guard := none }
def oDkG3 : Oper := { dst := some 19, op := Op.load 76 (Operand.tmp 18), type := 76, pos := "l08_runs.go:352", after := #[{ on := 2, ground := Ground.data }], guard := none }
def oDkG4 : Oper := { dst := some 20, op := Op.call { callee := Callee.builtin Builtin.len, args := #[Operand.tmp 19], argTypes := #[76] }, type := 3, pos := "l08_runs.go:352", after := #[{ on := 3, ground := Ground.data }], guard := none }
def oDkG5 : Oper := { dst := some 21, op := Op.move (Operand.tmp 0), type := 61, pos := "l08_runs.go:352", after := #[], guard := none }
def oDkG6 : Oper := { dst := some 22, op := Op.nilCheck (Operand.tmp 21), type := 0, pos := "l08_runs.go:352", after := #[{ on := 5, ground := Ground.data }], guard := none }
def oDkG7 : Oper := { dst := some 23, op := Op.fieldAddr 79 (Operand.tmp 22) 4, type := 0, pos := "l08_runs.go:352", after := #[{ on := 6, ground := Ground.data }], guard := none }
def oDkG8 : Oper := { dst := some 24, op := Op.load 26 (Operand.tmp 23), type := 26, pos := "l08_runs.go:352", after := #[{ on := 7, ground := Ground.data }], guard := none }
def oDkG9 : Oper := { dst := some 26, op := Op.binOp BinOp.add 3 (Operand.tmp 20) (Operand.tmp 25) 3, type := 3, pos := "l08_runs.go:352", after := #[{ on := 4, ground := Ground.data }, { on := 9, ground := Ground.data }], guard := none }
def oDkG10 : Oper := { dst := some 27, op := Op.binOp BinOp.geq 3 (Operand.tmp 26) (Operand.const (Value.int IntKind.i64 1000)) 3, type := 4, pos := "l08_runs.go:352", after := #[{ on := 10, ground := Ground.data }], guard := none }
def oDkG11 : Oper := { dst := some 28, op := Op.move (Operand.tmp 27), type := 4, pos := "l08_runs.go:352", after := #[{ on := 11, ground := Ground.data }, { on := 9, ground := Ground.chain }], guard := none }
def oDkG12 : Oper := { dst := some 29, op := Op.move (Operand.tmp 0), type := 61, pos := "l08_runs.go:352", after := #[{ on := 12, ground := Ground.guard }], guard := some (12, false) }
def oDkG13 : Oper := { dst := some 30, op := Op.nilCheck (Operand.tmp 29), type := 0, pos := "l08_runs.go:352", after := #[{ on := 13, ground := Ground.data }, { on := 12, ground := Ground.guard }], guard := some (12, false) }
def oDkG14 : Oper := { dst := some 31, op := Op.fieldAddr 79 (Operand.tmp 30) 0, type := 0, pos := "l08_runs.go:352", after := #[{ on := 14, ground := Ground.data }, { on := 12, ground := Ground.guard }], guard := some (12, false) }
def oDkG15 : Oper := { dst := some 32, op := Op.load 2 (Operand.tmp 31), type := 2, pos := "l08_runs.go:352", after := #[{ on := 15, ground := Ground.data }, { on := 12, ground := Ground.guard }], guard := some (12, false) }
def oDkG16 : Oper := { dst := some 33, op := Op.binOp BinOp.geq 2 (Operand.tmp 32) (Operand.const (Value.int IntKind.i64 4611686018427387904)) 2, type := 4, pos := "l08_runs.go:352", after := #[{ on := 16, ground := Ground.data }, { on := 12, ground := Ground.guard }], guard := some (12, false) }
def oDkG17 : Oper := { dst := some 34, op := Op.pick (Operand.tmp 28) (Operand.const (Value.bool true)) (Operand.tmp 33), type := 4, pos := "l08_runs.go:352", after := #[{ on := 12, ground := Ground.data }, { on := 17, ground := Ground.data }], guard := none }
def oDkG18 : Oper := { dst := some 15, op := Op.assign (Operand.tmp 34), type := 4, pos := "l08_runs.go:352", after := #[{ on := 18, ground := Ground.data }, { on := 12, ground := Ground.chain }], guard := none }
def oDkG19 : Oper := { dst := some 47, op := Op.move (Operand.tmp 0), type := 61, pos := "l08_runs.go:357", after := #[], guard := none }
def oDkG20 : Oper := { dst := some 48, op := Op.nilCheck (Operand.tmp 47), type := 0, pos := "l08_runs.go:357", after := #[{ on := 0, ground := Ground.data }], guard := none }
def oDkG21 : Oper := { dst := some 49, op := Op.fieldAddr 79 (Operand.tmp 48) 2, type := 0, pos := "l08_runs.go:357", after := #[{ on := 1, ground := Ground.data }], guard := none }
def oDkG22 : Oper := { dst := some 50, op := Op.load 76 (Operand.tmp 49), type := 76, pos := "l08_runs.go:357", after := #[{ on := 2, ground := Ground.data }], guard := none }
def oDkG23 : Oper := { dst := some 51, op := Op.load 46 (Operand.tmp 3), type := 46, pos := "l08_runs.go:357", after := #[], guard := none }
def oDkG24 : Oper := { dst := some 53, op := Op.load 46 (Operand.tmp 3), type := 46, pos := "l08_runs.go:357", after := #[], guard := none }
theorem sADkG {α : Type} (l : List α) (i : Nat) (a : α) : l.toArray.setIfInBounds i a = (l.set i a).toArray := by simp
theorem sBDkG {α : Type} (x a : α) (l : List α) : (x :: l).set 0 a = a :: l := rfl
theorem sCDkG {α : Type} (x a : α) (l : List α) (i : Nat) : (x :: l).set (i + 1) a = x :: l.set i a := rfl
set_option linter.unusedVariables false
theorem step_mapUp {H : Type} {P : Program} (w : World) {ops : Array Oper} {o : Oper} {a : Act} {K' : Act → World → Prop} {Q : Exit → Act → World → Prop} {E : Prop}
 (hg : o.guard = none) (m x v : Operand) (t : TypeId) (hop : o.op = Op.mapUpdate t m x v)
 (k e : TypeId) (K : Maps.Keyed P k) (ht : P.underlying t = some (.map k e)) (R : Value → Option (DataW H × List MemPlace)) (b n : Nat) (D : DataW H)
 (hm : a.eval m = .map (some b)) (hown : w.ownsMap P k R b n D) (hn : n < maxLen) (key val : Value) (kl : Lit) (hx : a.eval x = key) (hv : a.eval v = val) (hkey : keyOf P k key = some kl)
 (d : DataW H) (ps : List MemPlace) (hval : R val = some (d, ps))
 (hK : ∀ w', w'.ownsMap P k R b (n + 1) (D.put kl d) → w.grownBy w' (some b) → K' (a.put o.dst undef) w') :
 if Region.wanted o (yielded ops a.tmps) = true then Oper.wp P o a w K' Q else E := by
 have hw : Region.wanted o (yielded ops a.tmps) = true := by simp [Region.wanted, hg]
 rw [if_pos hw]; obtain ⟨w', hrun, r1, r2⟩ := hown.update K ht hn hkey hval; unfold Oper.wp
 simp [execOp, hop, hm, hx, hv, hrun, Result.andThen]
 exact hK w' r1 r2
def PutP (t : Tt) (ky tx : ByteArray) (gn : Bool) (t' : Tt) (cd : Int) : Prop := ∀ o : TOp, o.ky = ky → o.kd = (if gn = true then 2 else 1) → (gn = false → o.tx = tx) → Stp t o t' ⟨cd, ⟨#[]⟩, []⟩
theorem Dk.put {W W1 : World} {B d mb n : Nat} {t : Tt} {D : DataW En} {L : List En} {vS : Value} {S : List En} {vR : Value} {Q : List (Value × List En)} (h : Dk W B d mb t D L vS S vR Q) (hS : S.length ≤ L.length) {e : En} (he : pkOk e) (hn : ∀ x ∈ L, pkL x ≠ pkL e) {t' : Tt} (e1 : t'.sq = t.sq) (e2 : t'.fl = t.fl) (e3 : t'.rs = t.rs) (hm : ∀ x, x ∈ t'.fr ↔ x ∈ t.fr ∨ x = e) (hp : t'.fr.Pairwise enLt) (hM : W1.ownsMap Tryz.prog 81 enRd mb n (D.put (pkL e) (.held e))) (hg : W.grownBy W1 (some mb)) : Dk W1 B d mb t' (D.put (pkL e) (.held e)) (L ++ [e]) vS S vR Q := by
 have k1 : ∀ {g ty cs}, RA W g ty cs → RA W1 g ty cs := fun {g ty cs} r => (hg.block g r.lt (fun q => row_not_map r h.map (Option.some.inj q))).trans r; have hF := h.fr.put he hn; refine ⟨by rw [e1, e2]; exact k1 h.row, ?_, hF, fun x => ?_, hp, h.so.keep fun g cs _ r => k1 r, fun q => ?_, or_keep h.rs fun g cs _ r => k1 r, fun p hp => (h.ru p hp).keep fun g cs _ r => k1 r, by rw [e3]; exact h.eq, h.bd⟩
 · rw [← hF.size]; exact map_tight hM
 · rw [hm, h.mem, List.mem_append, List.mem_singleton]
 · rw [List.length_append] at q
   have : [e].length = 1 := rfl
   omega
theorem Dk.cellE {W : World} {B d mb X : Nat} {t : Tt} {D : DataW En} {L : List En} {vS : Value} {S : List En} {vR : Value} {Q : List (Value × List En)} {cs : Array Value} (h : Dk W B d mb t D L vS S vR Q) (hx : RA W X 46 cs) (n1 : vS.ownBlock ≠ some X) (n2 : ∀ p ∈ Q, p.1.ownBlock ≠ some X) (i : Nat) (v : Value) : Dk (W.setCell ⟨X, i, none⟩ v) B d mb t D L vS S vR Q := by
 have ok : ∀ {g ty' cs'}, RA W g ty' cs' → g ≠ X → RA (W.setCell ⟨X, i, none⟩ v) g ty' cs' := fun {g ty' cs'} r hne => r.other _ _ hne; exact ⟨ok h.row (row_ne h.row hx (by decide)), mapAt h.map (Below.heap_setCell _ _ _ mb (fun e => row_not_map hx h.map e.symm)), h.fr, h.mem, h.srt, h.so.keep fun g cs e r => ok r (fun q => n1 (by rw [← q]; exact e)), h.sk, or_keep h.rs fun g cs _ r => ok r (row_ne r hx (by decide)), fun p hp => (h.ru p hp).keep fun g cs e r => ok r (fun q => n2 p hp (by rw [← q]; exact e)), h.eq, h.bd⟩
theorem cntR_flat {W : World} {B d mb : Nat} {t : Tt} {D : DataW En} {L : List En} {vS : Value} {S : List En} {vR : Value} {Q : List (Value × List En)} (h : Dk W B d mb t D L vS S vR Q) : L.length + cntR (Rq Q) Q.length = t.all.length := by
 unfold Tt.all; rw [List.length_append, ← h.flat, allE_len, h.len]
set_option maxRecDepth 20000 in
set_option maxHeartbeats 8000000 in
theorem iPutD (B d mb : Nat) (t : Tt) (D : DataW En) (L : List En) (vS : Value) (S : List En) (vR : Value) (Q : List (Value × List En)) (hT : TbOk t) (hSL : S.length ≤ L.length) (ky tx : ByteArray) (gn : Bool) (hk : ky.size ≤ 1048576) (hgt : gn = true → tx = ⟨#[]⟩) (W : World) (h : Dk W B d mb t D L vS S vR Q) (hB : B ≤ W.heap.size) :
 Calls Tryz.prog 44 #[.pointer (some ⟨d, 0, none⟩), .agg #[.string ky, .int .i64 0, .bool gn, .string tx]] W fun e W' => (∃ cd t', e = .returned (.int .i64 cd) ∧ PutP t ky tx gn t' cd ∧ ∃ D' L', Dk W' B d mb t' D' L' vS S vR Q ∧ S.length ≤ L'.length) ∧ KD B W W' := by
 obtain ⟨aR, cR, hvR, hRn, _, _, _⟩ := rs_rnA h.rs h.ru; obtain ⟨m, hm⟩ : ∃ x, x = Q.length := ⟨_, rfl⟩; rw [← hm] at hvR hRn; subst hvR; obtain ⟨W1, hW1⟩ : ∃ W1, W1 = W.alloc (.cells #[.string ky, .int .i64 0, .bool gn, .string tx] 46) := ⟨_, rfl⟩; have b1 : Below W.heap.size W W1 := by rw [hW1]; exact (Below.refl _ _).alloc (Nat.le_refl _) _
 have E1 : Hid (RA W1 W.heap.size 46 #[.string ky, .int .i64 0, .bool gn, .string tx]) := by rw [hW1]; exact RA.new _ _ _
 have D1 := hid (h.below b1); have K1 : Hid (KD B W W1) := KD.of_below b1 hB; have HB0 := hid hB; have HB1 : Hid (B ≤ W1.heap.size) := Nat.le_trans hB b1.size; have KK := hid (iKeyFits ky hk W1); have r0 := E1.out.cell 0; have r3 := E1.out.cell 3; have kdo : ∀ o : TOp, o.kd = (if gn = true then 2 else 1) → o.kd = 1 ∨ o.kd = 2 := fun o ho => by rw [ho]; cases gn <;> simp
 cases hf : kFit ky with
 | false =>
  rw [hf] at KK; have ST : Hid (PutP t ky tx gn t 1) := fun o ho hd _ => .key (kdo o hd) (by rw [ho]; intro z; unfold kFit at hf; simp [z.1, z.2] at hf); clear h hB hT b1 hm hRn hf kdo
  go_enter Tryz.func44, Tryz.ntmps44
  go_upto_region 1 with fail
  rw [← hW1]; clear hW1
  go_wp2_with fail
  refine KK.out.mono ?_
  rintro e w2 ⟨rfl, rfl⟩
  go_wp2_with fail
  go_ret
  first | exact ⟨⟨_, _, rfl, ST.out, _, _, D1.out, hSL⟩, K1.out⟩ | exact ⟨⟨_, rfl, _, ST.out, _, _, D1.out, hSL⟩, K1.out⟩
 | true =>
  rw [hf] at KK; have hks : 1 ≤ ky.size ∧ ky.size ≤ 200 := by unfold kFit at hf; simp at hf; exact hf
  by_cases hbig : 100000 < tx.size
  · have g1 : (100000 : Int) < (tx.size : Int) := by omega
    have g2 : decide ((100000 : Int) < (tx.size : Int)) = true := by simp; omega
    have hgf : gn = false := by
     cases gn with
     | false => rfl
     | true => rw [hgt rfl] at hbig; exact absurd hbig (by decide)
    have ST : Hid (PutP t ky tx gn t 2) := fun o ho hd ht => .big (by rw [hd, hgf]; rfl) (by rw [ho]; exact hks) (by rw [ht hgf]; exact hbig); clear h hB hT b1 hm hRn hf kdo hbig hgf
    go_enter Tryz.func44, Tryz.ntmps44
    go_upto_region 1 with fail
    rw [← hW1]; clear hW1
    go_wp2_with fail
    refine KK.out.mono ?_
    rintro e w2 ⟨rfl, rfl⟩
    go_wp2_with fail
    go_ret
    first | exact ⟨⟨_, _, rfl, ST.out, _, _, D1.out, hSL⟩, K1.out⟩ | exact ⟨⟨_, rfl, _, ST.out, _, _, D1.out, hSL⟩, K1.out⟩
  · have g1 : ¬ (100000 : Int) < (tx.size : Int) := by omega
    have g2 : decide ((100000 : Int) < (tx.size : Int)) = false := by simp; omega
    have htab := h.tab hT; rw [← hm] at htab; have hcn : cntR (Rq Q) m + t.fr.length ≤ 1000 := htab.2.2.2.1; have hm20 : m ≤ 20 := htab.1.2.2.2; obtain ⟨CN, hCN⟩ : ∃ x, x = cntR (Rq Q) m := ⟨_, rfl⟩; obtain ⟨NL, hNL⟩ : ∃ x, x = L.length := ⟨_, rfl⟩; obtain ⟨SQ, hSQ⟩ : ∃ x, x = t.sq := ⟨_, rfl⟩; have hq0 : 0 ≤ SQ := by rw [hSQ]; exact hT.tok.q0
    have hq1 : SQ ≤ 4611686018427387904 := by rw [hSQ]; exact hT.q1
    have hall : NL + CN = t.all.length := by rw [hNL, hCN, hm]; exact cntR_flat h
    have hac := hT.cnt; have KC := fun wx (hx : Dk wx B d mb t D L vS S (.slice aR m cR) Q) => hid (iCount aR m cR (Rq Q) (by omega) (by omega) wx hx.rn.2.1); rw [← hCN] at KC; have CC : Hid (∀ wx, Dk wx B d mb t D L vS S (.slice aR m cR) Q → wx.cell? ⟨d, 0, none⟩ = some (.int .i64 SQ) ∧ wx.cell? ⟨d, 2, none⟩ = some (.map (some mb)) ∧ wx.cell? ⟨d, 4, none⟩ = some (.slice aR m cR) ∧ ∀ ty, (Builtin.len_ #[76] ty #[.map (some mb)]).run Tryz.prog wx = .ok (.int .i64 (NL : Int)) wx) := fun wx hx => ⟨by rw [hSQ]; exact hx.row.cell 0, hx.row.cell 2, hx.row.cell 4, fun ty => by have := hx.map.len Tryz.underlying76 ty; rw [hx.fr.size, ← hNL] at this; exact this⟩
    have STF : Hid (1000 ≤ NL + CN ∨ 4611686018427387904 ≤ SQ → PutP t ky tx gn t 7) := fun z o ho hd ht => .full (kdo o hd) (by rw [ho]; exact hks) (fun y => by
     cases gn with
     | true => rw [y.1] at hd; exact absurd hd (by decide)
     | false => rw [ht rfl] at y; omega) (by rw [← hSQ]; omega)
    have wr : IntKind.i64.wrap ((NL : Int) + (CN : Int)) = (NL : Int) + (CN : Int) := by simp [IntKind.wrap, IntKind.bits, IntKind.signed]; omega
    have HSL := hid hSL
    have HNO : Hid (¬ (1000 ≤ NL + CN ∨ 4611686018427387904 ≤ SQ) → SQ + 1 ≤ 4611686018427387904 ∧ PutP t ky tx gn ⟨SQ + 1, t.fl, (srt_ex (t.fr ++ [(⟨ky, SQ + 1, gn, tx⟩ : En)])).choose, t.rs⟩ 0 ∧ (∀ x, x ∈ (srt_ex (t.fr ++ [(⟨ky, SQ + 1, gn, tx⟩ : En)])).choose ↔ x ∈ t.fr ∨ x = ⟨ky, SQ + 1, gn, tx⟩) ∧ (srt_ex (t.fr ++ [(⟨ky, SQ + 1, gn, tx⟩ : En)])).choose.Pairwise enLt) := fun hno => by
     have hB := (srt_ex (t.fr ++ [(⟨ky, SQ + 1, gn, tx⟩ : En)])).choose_spec
     have key : ∀ o : TOp, o.ky = ky → o.kd = (if gn = true then 2 else 1) → (gn = false → o.tx = tx) → newE t o = ⟨ky, SQ + 1, gn, tx⟩ := fun o ho hd ht => by
      unfold newE; rw [ho, hSQ]
      cases gn with
      | true => rw [hd, hgt rfl]; rfl
      | false => rw [hd, ht rfl]; rfl
     have sp : PutP t ky tx gn ⟨SQ + 1, t.fl, (srt_ex (t.fr ++ [(⟨ky, SQ + 1, gn, tx⟩ : En)])).choose, t.rs⟩ 0 := fun o ho hd ht => by
      have := Stp.put (t := t) (o := o) (srt_ex (t.fr ++ [(⟨ky, SQ + 1, gn, tx⟩ : En)])).choose (kdo o hd) (by rw [ho]; exact hks) (fun y => by
       cases gn with
       | true => rw [y.1] at hd; exact absurd hd (by decide)
       | false => rw [ht rfl] at y; omega) (fun z => hno (by rw [← hSQ] at z; omega)) (by rw [key o ho hd ht]; exact hB)
      rw [← hSQ] at this; exact this
     refine ⟨by omega, sp, fun x => ?_, ?_⟩
     · rw [hB.mem, List.mem_append, List.mem_singleton]
     · have st := sp ⟨if gn = true then 2 else 1, ky, tx, 0, ⟨#[]⟩, 0⟩ |> fun _ => (sp ⟨(if gn = true then 2 else 1), ky, tx, 0, ⟨#[]⟩, 0⟩ rfl rfl fun _ => rfl)
       exact (st.tb hT).srt
    have HKS := hid hks; have HSQ := hid hSQ; have HLL : Hid (L.length ≤ 1000) := by show _ ≤ _; rw [← hNL]; omega
    have LQ : Hid (∀ x ∈ L, x.sq ≤ SQ) := fun x hx => by rw [hSQ]; exact (hT.fit x (List.mem_append_left _ ((h.mem x).2 hx))).2
    have NE : Hid (vS.ownBlock ≠ some W.heap.size ∧ ∀ p ∈ Q, p.1.ownBlock ≠ some W.heap.size) := ⟨fun e => by have := (h.so.row e).2.1; omega, fun p hp e => by have := ((h.ru p hp).row e).2.1; omega⟩; have HM := hid hm; clear h hB hT b1 hm hRn hf kdo hbig hks htab hcn hm20 hCN hNL hSQ hall hac hSL hgt
    go_enter Tryz.func44, Tryz.ntmps44
    go_upto_region 1 with fail
    rw [← hW1]; clear hW1
    go_wp2_with fail
    refine KK.out.mono ?_
    rintro e w2 ⟨rfl, rfl⟩
    clear KK
    go_upto_region 5 with fail
    obtain ⟨FU, hFU⟩ : ∃ b, b = (decide ((1000 : Int) ≤ (NL : Int) + (CN : Int)) || decide ((4611686018427387904 : Int) ≤ SQ)) := ⟨_, rfl⟩; have HFU := hid hFU; clear hFU
    go_cut [15] from 16 to 34 (fun c wx => c = .bool FU ∧ Dk wx B d mb t D L vS S (.slice aR m cR) Q ∧ RA wx W.heap.size 46 #[.string ky, .int .i64 0, .bool gn, .string tx] ∧ KD B W wx)
    case first =>
     clear r0 r3
     by_cases hf1 : (1000 : Int) ≤ (NL : Int) + (CN : Int)
     · have z1 : decide ((1000 : Int) ≤ (NL : Int) + (CN : Int)) = true := by simpa using hf1
       have HF : Hid (FU = true) := by show _ = _; rw [HFU.out, z1]; rfl
       obtain ⟨c0, c2, c4, cl⟩ := CC.out _ D1.out; refine wp_region_held_drew (S := fun wx => wx.cell? ⟨d, 0, none⟩ = some (.int .i64 SQ) ∧ wx.cell? ⟨d, 2, none⟩ = some (.map (some mb)) ∧ wx.cell? ⟨d, 4, none⟩ = some (.slice aR m cR) ∧ ∀ ty, (Builtin.len_ #[76] ty #[.map (some mb)]).run Tryz.prog wx = .ok (.int .i64 (NL : Int)) wx) (by kernel_rfl) ?_ (fun hHeld => ?_)
       · first | exact CC.out _ D1.out | exact CC.out _ D1.out.drew
       refine wpAnyH_take (i := 0) (oi := oDkG0) (v := ?v1x0) rfl (by kernel_rfl) (by kernel_rfl) (by kernel_rfl) (fun _ _ _ h => h) (Or.inl ⟨by rfl, ?hy1x0⟩) hHeld ?rest1x0
       case hy1x0 => (unfold oDkG0; intro w hSw; (try dsimp only at hSw); go_simp; try with_reducible rfl)
       simp only [oDkG0, Act.put, sADkG, sBDkG, sCDkG]; refine wpAnyH_take (i := 1) (oi := oDkG1) (v := ?v1x1) rfl (by kernel_rfl) (by kernel_rfl) (by kernel_rfl) (fun _ _ _ h => h) (Or.inl ⟨by rfl, ?hy1x1⟩) hHeld ?rest1x1
       case hy1x1 => (unfold oDkG1; intro w hSw; (try dsimp only at hSw); go_simp; try with_reducible rfl)
       simp only [oDkG1, Act.put, sADkG, sBDkG, sCDkG]; refine wpAnyH_take (i := 2) (oi := oDkG2) (v := ?v1x2) rfl (by kernel_rfl) (by kernel_rfl) (by kernel_rfl) (fun _ _ _ h => h) (Or.inl ⟨by rfl, ?hy1x2⟩) hHeld ?rest1x2
       case hy1x2 => (unfold oDkG2; intro w hSw; (try dsimp only at hSw); go_simp; try with_reducible rfl)
       simp only [oDkG2, Act.put, sADkG, sBDkG, sCDkG]; refine wpAnyH_take (i := 3) (oi := oDkG3) (v := ?v1x3) rfl (by kernel_rfl) (by kernel_rfl) (by kernel_rfl) (fun _ _ _ h => h) (Or.inl ⟨by rfl, ?hy1x3⟩) hHeld ?rest1x3
       case hy1x3 => (unfold oDkG3; intro w hSw; (try dsimp only at hSw); go_simp; try with_reducible rfl)
       simp only [oDkG3, Act.put, sADkG, sBDkG, sCDkG]; refine wpAnyH_take (i := 4) (oi := oDkG4) (v := ?v1x4) rfl (by kernel_rfl) (by kernel_rfl) (by kernel_rfl) (fun _ _ _ h => h) (Or.inl ⟨by rfl, ?hy1x4⟩) hHeld ?rest1x4
       case hy1x4 => (unfold oDkG4; intro w hSw; (try dsimp only at hSw); go_simp; try with_reducible rfl)
       simp only [oDkG4, Act.put, sADkG, sBDkG, sCDkG]; refine wpAnyH_take (i := 5) (oi := oDkG5) (v := ?v1x5) rfl (by kernel_rfl) (by kernel_rfl) (by kernel_rfl) (fun _ _ _ h => h) (Or.inl ⟨by rfl, ?hy1x5⟩) hHeld ?rest1x5
       case hy1x5 => (unfold oDkG5; intro w hSw; (try dsimp only at hSw); go_simp; try with_reducible rfl)
       simp only [oDkG5, Act.put, sADkG, sBDkG, sCDkG]; refine wpAnyH_take (i := 6) (oi := oDkG6) (v := ?v1x6) rfl (by kernel_rfl) (by kernel_rfl) (by kernel_rfl) (fun _ _ _ h => h) (Or.inl ⟨by rfl, ?hy1x6⟩) hHeld ?rest1x6
       case hy1x6 => (unfold oDkG6; intro w hSw; (try dsimp only at hSw); go_simp; try with_reducible rfl)
       simp only [oDkG6, Act.put, sADkG, sBDkG, sCDkG]; refine wpAnyH_take (i := 7) (oi := oDkG7) (v := ?v1x7) rfl (by kernel_rfl) (by kernel_rfl) (by kernel_rfl) (fun _ _ _ h => h) (Or.inl ⟨by rfl, ?hy1x7⟩) hHeld ?rest1x7
       case hy1x7 => (unfold oDkG7; intro w hSw; (try dsimp only at hSw); go_simp; try with_reducible rfl)
       simp only [oDkG7, Act.put, sADkG, sBDkG, sCDkG]; refine wpAnyH_take (i := 8) (oi := oDkG8) (v := ?v1x8) rfl (by kernel_rfl) (by kernel_rfl) (by kernel_rfl) (fun _ _ _ h => h) (Or.inl ⟨by rfl, ?hy1x8⟩) hHeld ?rest1x8
       case hy1x8 => (unfold oDkG8; intro w hSw; (try dsimp only at hSw); go_simp; try with_reducible rfl)
       simp only [oDkG8, Act.put, sADkG, sBDkG, sCDkG]; refine wpAnyH_ready (rs := [9]) (by kernel_rfl) (by simp) ?_
       refine AllReadyH.cons (o := { dst := some 25, op := Op.call { callee := Callee.value (Operand.func 51), args := #[Operand.tmp 24], argTypes := #[26] }, type := 3, pos := "l08_runs.go:352", after := #[{ on := 8, ground := Ground.data }, { on := 4, ground := Ground.chain }], guard := none }) rfl (fun K hK => ?_) AllReadyH.nil
       go_simp
       refine (KC _ D1.out.drew).out.mono ?_
       rintro e w3 ⟨rfl, hb⟩
       have hb3 : Below w2.heap.size w2 w3 := ⟨hb.os, hb.tape, hb.output, hb.size, hb.block⟩; have K3 := hid (K1.out.trans (KD.of_below hb3 HB1.out)); have E3 := hid (RA.below E1.out hb3 E1.out.lt); have D3 := hid (D1.out.below hb3); clear hb hb3
       go_wp2_with fail
       refine hK.out _ _ ?_ (fun hHeld => ?_)
       · exact CC.out _ D3.out
       clear hK K
       try simp only [Act.put, sADkG, sBDkG, sCDkG]
       refine wpAnyH_take (i := 10) (oi := oDkG9) (v := ?v1x10) rfl (by kernel_rfl) (by kernel_rfl) (by kernel_rfl) (fun _ _ _ h => h) (Or.inl ⟨by rfl, ?hy1x10⟩) hHeld ?rest1x10
       case hy1x10 => (unfold oDkG9; intro w hSw; (try dsimp only at hSw); go_simp; try with_reducible rfl)
       simp only [oDkG9, Act.put, sADkG, sBDkG, sCDkG]; refine wpAnyH_take (i := 11) (oi := oDkG10) (v := ?v1x11) rfl (by kernel_rfl) (by kernel_rfl) (by kernel_rfl) (fun _ _ _ h => h) (Or.inl ⟨by rfl, ?hy1x11⟩) hHeld ?rest1x11
       case hy1x11 => (unfold oDkG10; intro w hSw; (try dsimp only at hSw); go_simp; try with_reducible rfl)
       simp only [oDkG10, Act.put, sADkG, sBDkG, sCDkG]; refine wpAnyH_take (i := 12) (oi := oDkG11) (v := ?v1x12) rfl (by kernel_rfl) (by kernel_rfl) (by kernel_rfl) (fun _ _ _ h => h) (Or.inl ⟨by rfl, ?hy1x12⟩) hHeld ?rest1x12
       case hy1x12 => (unfold oDkG11; intro w hSw; (try dsimp only at hSw); go_simp; try with_reducible rfl)
       simp only [oDkG11, Act.put, sADkG, sBDkG, sCDkG]; refine wpAnyH_take (i := 13) (oi := oDkG12) (v := undef) rfl (by kernel_rfl) (by kernel_rfl) (by kernel_rfl) (fun _ _ _ h => h) (Or.inr ⟨by rfl, rfl⟩) hHeld ?_; simp only [oDkG12, Act.put, sADkG, sBDkG, sCDkG]; refine wpAnyH_take (i := 14) (oi := oDkG13) (v := undef) rfl (by kernel_rfl) (by kernel_rfl) (by kernel_rfl) (fun _ _ _ h => h) (Or.inr ⟨by rfl, rfl⟩) hHeld ?_; simp only [oDkG13, Act.put, sADkG, sBDkG, sCDkG]; refine wpAnyH_take (i := 15) (oi := oDkG14) (v := undef) rfl (by kernel_rfl) (by kernel_rfl) (by kernel_rfl) (fun _ _ _ h => h) (Or.inr ⟨by rfl, rfl⟩) hHeld ?_; simp only [oDkG14, Act.put, sADkG, sBDkG, sCDkG]; refine wpAnyH_take (i := 16) (oi := oDkG15) (v := undef) rfl (by kernel_rfl) (by kernel_rfl) (by kernel_rfl) (fun _ _ _ h => h) (Or.inr ⟨by rfl, rfl⟩) hHeld ?_; simp only [oDkG15, Act.put, sADkG, sBDkG, sCDkG]; refine wpAnyH_take (i := 17) (oi := oDkG16) (v := undef) rfl (by kernel_rfl) (by kernel_rfl) (by kernel_rfl) (fun _ _ _ h => h) (Or.inr ⟨by rfl, rfl⟩) hHeld ?_; simp only [oDkG16, Act.put, sADkG, sBDkG, sCDkG]; refine wpAnyH_take (i := 18) (oi := oDkG17) (v := ?v1x18) rfl (by kernel_rfl) (by kernel_rfl) (by kernel_rfl) (fun _ _ _ h => h) (Or.inl ⟨by rfl, ?hy1x18⟩) hHeld ?rest1x18
       case hy1x18 => (unfold oDkG17; intro w hSw; (try dsimp only at hSw); go_simp; try with_reducible rfl)
       simp only [oDkG17, Act.put, sADkG, sBDkG, sCDkG]; refine wpAnyH_take (i := 19) (oi := oDkG18) (v := ?v1x19) rfl (by kernel_rfl) (by kernel_rfl) (by kernel_rfl) (fun _ _ _ h => h) (Or.inl ⟨by rfl, ?hy1x19⟩) hHeld ?rest1x19
       case hy1x19 => (unfold oDkG18; intro w hSw; (try dsimp only at hSw); go_simp; try with_reducible rfl)
       simp only [oDkG18, Act.put, sADkG, sBDkG, sCDkG]; refine wpAnyH_done (by kernel_rfl) ?_ _
       all_goals go_wp2_with fail
       all_goals go_meet
       all_goals exact ⟨by rw [HF.out], D3.out, E3.out, K3.out⟩
     · have z1 : decide ((1000 : Int) ≤ (NL : Int) + (CN : Int)) = false := by simpa using hf1
       obtain ⟨c0, c2, c4, cl⟩ := CC.out _ D1.out
       by_cases hf2 : (4611686018427387904 : Int) ≤ SQ
       · have z2 : decide ((4611686018427387904 : Int) ≤ SQ) = true := by simpa using hf2
         have HF : Hid (FU = true) := by show _ = _; rw [HFU.out, z1, z2]; rfl
         go_region_held3 (fun wx => wx.cell? ⟨d, 0, none⟩ = some (.int .i64 SQ) ∧ wx.cell? ⟨d, 2, none⟩ = some (.map (some mb)) ∧ wx.cell? ⟨d, 4, none⟩ = some (.slice aR m cR) ∧ ∀ ty, (Builtin.len_ #[76] ty #[.map (some mb)]).run Tryz.prog wx = .ok (.int .i64 (NL : Int)) wx)
          ((first | exact CC.out _ D1.out | exact CC.out _ D1.out.drew))
          ((go_at_call 51; (first | refine (KC _ D1.out).out.mono ?_ | refine (KC _ D1.out.drew).out.mono ?_); rintro e w3 ⟨rfl, hb⟩; have hb3 : Below w2.heap.size w2 w3 := ⟨hb.os, hb.tape, hb.output, hb.size, hb.block⟩; replace K1 := hid (K1.out.trans (KD.of_below hb3 HB1.out)); replace E1 := hid (RA.below E1.out hb3 E1.out.lt); replace D1 := hid (D1.out.below hb3); clear hb hb3))
         all_goals go_wp2_with fail
         all_goals go_meet
         all_goals exact ⟨by rw [HF.out], D1.out, E1.out, K1.out⟩
       · have z2 : decide ((4611686018427387904 : Int) ≤ SQ) = false := by simpa using hf2
         have HF : Hid (FU = false) := by show _ = _; rw [HFU.out, z1, z2]; rfl
         go_region_held3 (fun wx => wx.cell? ⟨d, 0, none⟩ = some (.int .i64 SQ) ∧ wx.cell? ⟨d, 2, none⟩ = some (.map (some mb)) ∧ wx.cell? ⟨d, 4, none⟩ = some (.slice aR m cR) ∧ ∀ ty, (Builtin.len_ #[76] ty #[.map (some mb)]).run Tryz.prog wx = .ok (.int .i64 (NL : Int)) wx)
          ((first | exact CC.out _ D1.out | exact CC.out _ D1.out.drew))
          ((go_at_call 51; (first | refine (KC _ D1.out).out.mono ?_ | refine (KC _ D1.out.drew).out.mono ?_); rintro e w3 ⟨rfl, hb⟩; have hb3 : Below w2.heap.size w2 w3 := ⟨hb.os, hb.tape, hb.output, hb.size, hb.block⟩; replace K1 := hid (K1.out.trans (KD.of_below hb3 HB1.out)); replace E1 := hid (RA.below E1.out hb3 E1.out.lt); replace D1 := hid (D1.out.below hb3); clear hb hb3))
         all_goals go_wp2_with fail
         all_goals go_meet
         all_goals exact ⟨by rw [HF.out], D1.out, E1.out, K1.out⟩
    case rest =>
     obtain ⟨rfl, hD5, hE5, hK5⟩ := hcut; obtain ⟨W5, hW5⟩ : ∃ W5, W5 = wc := ⟨_, rfl⟩; rw [← hW5] at hD5 hE5 hK5 ⊢; have D5 := hid hD5; have E5 := hid hE5; have K5 := hid hK5; clear hD5 hE5 hK5 hW5 D1 E1 K1 HB1 KC CC
     by_cases hfu : 1000 ≤ NL + CN ∨ 4611686018427387904 ≤ SQ
     · have HF : FU = true := by
        rw [HFU.out]
        simp
        omega
       have ST := hid (STF.out hfu); clear hfu HFU; subst HF
       go_wp2_with fail
       go_ret
       first | exact ⟨⟨_, _, rfl, ST.out, _, _, D5.out, HSL.out⟩, K5.out⟩ | exact ⟨⟨_, rfl, _, ST.out, _, _, D5.out, HSL.out⟩, K5.out⟩
     have HF : FU = false := by
      rw [HFU.out]
      simp
      omega
     obtain ⟨hq2, hst, hbm, hbp⟩ := HNO.out hfu; obtain ⟨BB, hBB⟩ : ∃ x, x = (srt_ex (t.fr ++ [(⟨ky, SQ + 1, gn, tx⟩ : En)])).choose := ⟨_, rfl⟩; rw [← hBB] at hst hbm hbp; have ST := hid hst; have BM := hid hbm; have BP := hid hbp; have PK : Hid (pkOk ⟨ky, SQ + 1, gn, tx⟩) := ⟨hk, by show 1 ≤ SQ + 1; omega, hq2⟩
     have PN : Hid (∀ x ∈ L, pkL x ≠ pkL ⟨ky, SQ + 1, gn, tx⟩) := fun x hx e => by
      have z := (pk_inj (D5.out.fr.ok x hx) PK.out e).2; have := LQ.out x hx; have z2 : x.sq = SQ + 1 := z
      omega
     have wq : IntKind.i64.wrap (SQ + 1) = SQ + 1 := by simp [IntKind.wrap, IntKind.bits, IntKind.signed]; omega
     clear hfu HFU hst hbm hbp hBB HNO STF; subst HF; obtain ⟨W7, hW7⟩ : ∃ W7, W7 = W5.setCell ⟨d, 0, none⟩ (.int .i64 (SQ + 1)) := ⟨_, rfl⟩; have D7 : Hid (Dk W7 B d mb ⟨SQ + 1, t.fl, t.fr, t.rs⟩ D L vS S (.slice aR m cR) Q) := by rw [hW7]; exact D5.out.num ⟨SQ + 1, t.fl, t.fr, t.rs⟩ rfl rfl 0 _ rfl
     have E7 : Hid (RA W7 W.heap.size 46 #[.string ky, .int .i64 0, .bool gn, .string tx]) := by rw [hW7]; exact (D5.out.set 0 _).1 E5.out (by decide)
     have K7 : Hid (KD B W W7) := by rw [hW7]; exact K5.out.trans (KD.set D5.out.row D5.out.bd.1 _)
     have c0 : W5.cell? ⟨d, 0, none⟩ = some (.int .i64 SQ) := by rw [HSQ.out]; exact D5.out.row.cell 0
     have f0 := D5.out.row.free 0; have HW7 := hid hW7; clear hW7
     go_upto_region 8 with fail
     rw [← HW7.out]; clear HW7 c0 f0 D5 E5 K5; have c0 := D7.out.row.cell 0; have x1 := E7.out.cell 1; have g1' := E7.out.free 1; obtain ⟨W8, hW8⟩ : ∃ W8, W8 = W7.setCell ⟨W.heap.size, 1, none⟩ (.int .i64 (SQ + 1)) := ⟨_, rfl⟩; have D8 : Hid (Dk W8 B d mb ⟨SQ + 1, t.fl, t.fr, t.rs⟩ D L vS S (.slice aR m cR) Q) := by rw [hW8]; exact D7.out.cellE E7.out NE.out.1 NE.out.2 1 _
     have E8 : Hid (RA W8 W.heap.size 46 #[.string ky, .int .i64 (SQ + 1), .bool gn, .string tx]) := by rw [hW8]; exact E7.out.set 1 _
     have K8 : Hid (KD B W W8) := by rw [hW8]; exact K7.out.cellN HB0.out (Nat.le_refl _) 1 _
     have HW8 := hid hW8; clear hW8
     go_upto_region 9 with fail
     rw [← HW8.out]; clear HW8 c0 x1 g1' D7 E7 K7 wq wr; have KP := fun wx => hid (iPlaceOf ky (SQ + 1) gn tx wx); have KY := fun wx => hid (iCopyE ky (SQ + 1) gn tx hk (by omega) wx); refine wp_region_held_drew (S := fun wx => wx.cell? ⟨d, 2, none⟩ = some (.map (some mb)) ∧ wx.cell? ⟨W.heap.size, 0, none⟩ = some (.string ky) ∧ wx.cell? ⟨W.heap.size, 1, none⟩ = some (.int .i64 (SQ + 1)) ∧ wx.cell? ⟨W.heap.size, 2, none⟩ = some (.bool gn) ∧ wx.cell? ⟨W.heap.size, 3, none⟩ = some (.string tx)) (by kernel_rfl) ?_ (fun hHeld => ?_)
     · exact ⟨D8.out.drew.row.cell 2, E8.out.cell 0, E8.out.cell 1, E8.out.cell 2, E8.out.cell 3⟩
     refine wpAnyH_take (i := 0) (oi := oDkG19) (v := ?vx0) rfl (by kernel_rfl) (by kernel_rfl) (by kernel_rfl) (fun _ _ _ h => h) (Or.inl ⟨by rfl, ?hyx0⟩) hHeld ?restx0
     case hyx0 => (unfold oDkG19; intro w hSw; (try dsimp only at hSw); go_simp; try with_reducible rfl)
     simp only [oDkG19, Act.put, sADkG, sBDkG, sCDkG]; refine wpAnyH_take (i := 1) (oi := oDkG20) (v := ?vx1) rfl (by kernel_rfl) (by kernel_rfl) (by kernel_rfl) (fun _ _ _ h => h) (Or.inl ⟨by rfl, ?hyx1⟩) hHeld ?restx1
     case hyx1 => (unfold oDkG20; intro w hSw; (try dsimp only at hSw); go_simp; try with_reducible rfl)
     simp only [oDkG20, Act.put, sADkG, sBDkG, sCDkG]; refine wpAnyH_take (i := 2) (oi := oDkG21) (v := ?vx2) rfl (by kernel_rfl) (by kernel_rfl) (by kernel_rfl) (fun _ _ _ h => h) (Or.inl ⟨by rfl, ?hyx2⟩) hHeld ?restx2
     case hyx2 => (unfold oDkG21; intro w hSw; (try dsimp only at hSw); go_simp; try with_reducible rfl)
     simp only [oDkG21, Act.put, sADkG, sBDkG, sCDkG]; refine wpAnyH_take (i := 3) (oi := oDkG22) (v := ?vx3) rfl (by kernel_rfl) (by kernel_rfl) (by kernel_rfl) (fun _ _ _ h => h) (Or.inl ⟨by rfl, ?hyx3⟩) hHeld ?restx3
     case hyx3 => (unfold oDkG22; intro w hSw; (try dsimp only at hSw); go_simp; try with_reducible rfl)
     simp only [oDkG22, Act.put, sADkG, sBDkG, sCDkG]; refine wpAnyH_take (i := 4) (oi := oDkG23) (v := ?vx4) rfl (by kernel_rfl) (by kernel_rfl) (by kernel_rfl) (fun _ _ _ h => h) (Or.inl ⟨by rfl, ?hyx4⟩) hHeld ?restx4
     case hyx4 => (unfold oDkG23; intro w hSw; (try dsimp only at hSw); go_simp; try with_reducible rfl)
     simp only [oDkG23, Act.put, sADkG, sBDkG, sCDkG]; refine wpAnyH_take (i := 6) (oi := oDkG24) (v := ?vx6) rfl (by kernel_rfl) (by kernel_rfl) (by kernel_rfl) (fun _ _ _ h => h) (Or.inl ⟨by rfl, ?hyx6⟩) hHeld ?restx6
     case hyx6 => (unfold oDkG24; intro w hSw; (try dsimp only at hSw); go_simp; try with_reducible rfl)
     simp only [oDkG24, Act.put, sADkG, sBDkG, sCDkG]; refine wpAnyH_ready (rs := [5]) (by kernel_rfl) (by simp) ?_
     refine AllReadyH.cons (o := { dst := some 52, op := Op.call { callee := Callee.value (Operand.func 43), args := #[Operand.tmp 51], argTypes := #[46] }, type := 81, pos := "l08_runs.go:357", after := #[{ on := 4, ground := Ground.data }], guard := none }) rfl (fun K hK => ?_) AllReadyH.nil
     go_simp
     refine (KP _).out.mono ?_
     rintro e w9 ⟨rfl, hb⟩
     have hb9 : Below W8.heap.size W8 w9 := ⟨hb.os, hb.tape, hb.output, hb.size, hb.block⟩; have K9 := hid (K8.out.trans (KD.of_below hb9 (Nat.le_trans HB0.out K8.out.size))); have E9 := hid (RA.below E8.out hb9 E8.out.lt); have D9 := hid (D8.out.below hb9); clear hb hb9
     go_wp2_with fail
     refine hK.out _ _ ?_ (fun hHeld => ?_)
     · exact ⟨D9.out.row.cell 2, E9.out.cell 0, E9.out.cell 1, E9.out.cell 2, E9.out.cell 3⟩
     clear hK K
     try simp only [Act.put, sADkG, sBDkG, sCDkG]
     refine wpAnyH_ready (rs := [7]) (by kernel_rfl) (by simp) ?_
     refine AllReadyH.cons (o := { dst := some 54, op := Op.call { callee := Callee.value (Operand.func 38), args := #[Operand.tmp 53], argTypes := #[46] }, type := 46, pos := "l08_runs.go:357", after := #[{ on := 6, ground := Ground.data }, { on := 5, ground := Ground.chain }], guard := none }) rfl (fun K hK => ?_) AllReadyH.nil
     go_simp
     refine (KY _).out.mono ?_
     rintro e w10 ⟨rfl, hb⟩
     have hb10 : Below w9.heap.size w9 w10 := ⟨hb.os, hb.tape, hb.output, hb.size, hb.block⟩; have K10 := hid (K9.out.trans (KD.of_below hb10 (Nat.le_trans HB0.out K9.out.size))); have E10 := hid (RA.below E9.out hb10 E9.out.lt); have D10 := hid (D9.out.below hb10); clear hb hb10
     go_wp2_with fail
     refine hK.out _ _ ?_ (fun hHeld => ?_)
     · exact ⟨D10.out.row.cell 2, E10.out.cell 0, E10.out.cell 1, E10.out.cell 2, E10.out.cell 3⟩
     clear hK K
     try simp only [Act.put, sADkG, sBDkG, sCDkG]
     refine wpAnyH_ready (rs := [8]) (by kernel_rfl) (by simp) ?_
     refine AllReadyH.cons (o := { dst := none, op := Op.mapUpdate 76 (Operand.tmp 50) (Operand.tmp 52) (Operand.tmp 54), type := 0, pos := "l08_runs.go:357", after := #[{ on := 3, ground := Ground.data }, { on := 5, ground := Ground.data }, { on := 7, ground := Ground.data }, { on := 7, ground := Ground.chain }, { on := 0, ground := Ground.phase }, { on := 1, ground := Ground.phase }, { on := 2, ground := Ground.phase }, { on := 3, ground := Ground.phase }, { on := 4, ground := Ground.phase }, { on := 5, ground := Ground.phase }, { on := 6, ground := Ground.phase }, { on := 7, ground := Ground.phase }], guard := none }) rfl (fun K hK => ?_) AllReadyH.nil
     refine step_mapUp _ rfl (.tmp 50) (.tmp 52) (.tmp 54) 76 rfl 81 46 lawP Tryz.underlying76 enRd mb L.length D rfl D10.out.map (by have := HLL.out; unfold maxLen; omega) (pkV ky (SQ + 1)) (enG ⟨ky, SQ + 1, gn, tx⟩) (pkL ⟨ky, SQ + 1, gn, tx⟩) rfl rfl (pk_key (e := ⟨ky, SQ + 1, gn, tx⟩) PK.out) (.held ⟨ky, SQ + 1, gn, tx⟩) [] (enRd_mk _) ?_; intro w11 hM hg; have K11 := hid (K10.out.trans (KD.map D10.out.map D10.out.bd.2 hg (Nat.le_trans HB0.out K10.out.size))); have E11 : Hid (RA w11 W.heap.size 46 #[.string ky, .int .i64 (SQ + 1), .bool gn, .string tx]) := (hg.block W.heap.size E10.out.lt (fun q => row_not_map E10.out D10.out.map (Option.some.inj q))).trans E10.out; have D11 := hid (Dk.put (t' := ⟨SQ + 1, t.fl, BB, t.rs⟩) D10.out HSL.out PK.out PN.out rfl rfl rfl BM.out BP.out hM hg); clear hM hg; refine hK.out _ _ ?_ (fun hHeld => ?_)
     · exact ⟨D11.out.row.cell 2, E11.out.cell 0, E11.out.cell 1, E11.out.cell 2, E11.out.cell 3⟩
     clear hK K
     try simp only [Act.put]
     refine wpAnyH_done (by kernel_rfl) ?_ _
     go_wp2_with fail
     go_ret
     first | exact ⟨⟨_, _, rfl, ST.out, _, _, D11.out, by rw [List.length_append]; exact Nat.le_trans HSL.out (Nat.le_add_right _ _)⟩, K11.out⟩ | exact ⟨⟨_, rfl, _, ST.out, _, _, D11.out, by rw [List.length_append]; exact Nat.le_trans HSL.out (Nat.le_add_right _ _)⟩, K11.out⟩
end Go.Proofs.YtcbmgpdpjagaoaaGreat
namespace Go.Proofs.YtcbmgpdpjagaoaaGreat
open Go.RowKit
set_option linter.unusedVariables false
def DkW (W : World) (B d : Nat) (t : Tt) : Prop := ∃ mb D L vS S vR Q, Dk W B d mb t D L vS S vR Q ∧ S.length ≤ L.length
theorem DkW.below {W W' : World} {B d : Nat} {t : Tt} (h : DkW W B d t) (hb : Below W.heap.size W W') : DkW W' B d t := by
 obtain ⟨mb, D, L, vS, S, vR, Q, hD, hl⟩ := h; exact ⟨mb, D, L, vS, S, vR, Q, hD.below hb, hl⟩
theorem DkW.keepY {W : World} {B d X : Nat} {t : Tt} {cs : Array Value} {ty : TypeId} (h : DkW W B d t) (hx : RA W X ty cs) (h1 : ty ≠ 79) (h2 : ty ≠ 46) (h3 : ty ≠ 25) (ds : Array Value) : DkW (W.setRow X ds) B d t := by
 obtain ⟨mb, D, L, vS, S, vR, Q, hD, hl⟩ := h; exact ⟨mb, D, L, vS, S, vR, Q, hD.keepY hx h1 h2 h3 ds, hl⟩
theorem OwnEn.keepY {W : World} {B X : Nat} {v : Value} {L : List En} {cs : Array Value} {ty : TypeId} (h : OwnEn W B v L) (hx : RA W X ty cs) (h2 : ty ≠ 46) (ds : Array Value) : OwnEn (W.setRow X ds) B v L := h.keep fun g cs _ r => r.otherRow X _ (row_ne r hx h2.symm)
def DoP (B d : Nat) (t : Tt) (o : TOp) (W : World) (e : Ending) (W' : World) : Prop := (∃ t' u v, e = .returned (.agg #[.int .i64 u.cd, .string u.tx, v]) ∧ Stp t o t' u ∧ OwnEn W' B v u.en ∧ DkW W' B d t') ∧ KD B W W'
theorem do_ret {B d : Nat} {t t' : Tt} {o : TOp} {W W' : World} {X : Nat} {cd : Int} {tx : ByteArray} {v : Value} {en : List En} {tm : Array Value} {cs : Array Value} (hX : RA W' X 41 cs) (hs : Stp t o t' ⟨cd, tx, en⟩) (hv : OwnEn W' B v en) (hd : DkW W' B d t') (hK : KD B W W') (hB : B ≤ X) (hW : W.heap.size ≤ X) (h4 : tm.getD 4 undef = .pointer (some ⟨X, 0, none⟩)) :
 bodyPost Tryz.prog Tryz.f25 (DoP B d t o W) Exit.ret { tmps := tm, defers := [] } (W'.setRow X #[.int .i64 cd, .string tx, v]) :=
 ou_ret (hX.setRow _) ⟨⟨t', ⟨cd, tx, en⟩, v, rfl, hs, hv.keepY hX (by decide) _, hd.keepY hX (by decide) (by decide) (by decide) _⟩, hK.setN hB hW _⟩ Tryz.results25 h4
set_option maxRecDepth 20000 in
set_option maxHeartbeats 8000000 in
theorem iDo (B d : Nat) (t : Tt) (hT : TbOk t) (o : TOp) (hk : o.ky.size ≤ 100000) (ht : o.til.size ≤ 100000) (hq : o.sq ≤ 9223372036854775807) (W : World) (h : DkW W B d t) (hB : B ≤ W.heap.size) :
 Calls Tryz.prog 25 #[.pointer (some ⟨d, 0, none⟩), .agg #[.int .i64 o.kd, .string o.ky, .string o.tx, .int .i64 o.sq, .string o.til, .int .i64 o.lm]] W fun e W' => DoP B d t o W e W' := by
 obtain ⟨mb, D, L, vS, S, vR, Q, hD, hSL⟩ := h; obtain ⟨kd, ky, tx, oq, til, lm⟩ := o; dsimp only at hk ht hq ⊢; obtain ⟨W1, hW1⟩ : ∃ W1, W1 = (W.alloc (.cells #[.int .i64 kd, .string ky, .string tx, .int .i64 oq, .string til, .int .i64 lm] 39)).alloc (.cells #[.int .i64 0, .string ⟨#[]⟩, .slice none 0 0] 41) := ⟨_, rfl⟩; have b1 : Below W.heap.size W W1 := by rw [hW1]; exact balEn (balEn (Below.refl _ _) _) _
 have P1 : Hid (RA W1 W.heap.size 39 #[.int .i64 kd, .string ky, .string tx, .int .i64 oq, .string til, .int .i64 lm]) := by rw [hW1]; exact (RA.new _ _ _).alloc _
 have X1 : Hid (RA W1 (W.heap.size + 1) 41 #[.int .i64 0, .string ⟨#[]⟩, .slice none 0 0]) := by rw [hW1]; exact RA.next _ _ _ (by rw [size_al])
 have D1 := hid (hD.below b1); have K1 : Hid (KD B W W1) := KD.of_below b1 hB; have HB1 : B ≤ W1.heap.size := Nat.le_trans hB b1.size; have HX : Hid (B ≤ W.heap.size + 1 ∧ W.heap.size ≤ W.heap.size + 1) := ⟨Nat.le_succ_of_le hB, Nat.le_succ _⟩; have hk6 : ky.size ≤ 1048576 := by omega
 have r0 := P1.out.cell 0; have r1 := P1.out.cell 1; have r2 := P1.out.cell 2; have r3 := P1.out.cell 3; have r4 := P1.out.cell 4; have r5 := P1.out.cell 5
 by_cases hk1 : kd = 1
 · obtain rfl : kd = 1 := hk1
   have k1 : ((1 : Int) == 1) = true := rfl; have KK := hid (iPutD B d mb t D L vS S vR Q hT hSL ky tx false hk6 (fun q => Bool.noConfusion q) W1 D1.out HB1); clear hD hB b1 hT HB1 hk ht hq hk6
   go_enter Tryz.func25, Tryz.ntmps25
   go_upto_region 1 with fail
   rw [← hW1]; clear hW1
   go_wp2_with fail
   refine KK.out.mono ?_
   rintro e w2 ⟨⟨cd, t2, rfl, hs, D2, L2, hD2, hl2⟩, hK2⟩
   have ST := hid (hs ⟨1, ky, tx, oq, til, lm⟩ rfl rfl fun _ => rfl); have DD : Hid (DkW w2 B d t2) := ⟨_, _, _, _, _, _, _, hD2, hl2⟩; clear hs hD2 hl2; have X2 := hid (hK2.row _ _ _ X1.out (by decide) (by decide)); have K2 := hid (K1.out.trans hK2); clear KK hK2
   go_wp2_with (refine wpList_store_row rfl 41 (.tmp 4) (.tmp 16) rfl (W.heap.size + 1) #[.int .i64 cd, .string ⟨#[]⟩, .slice none 0 0] rfl rfl _ _ X2.out (by kernel_rfl) rfl (by simp [Value.oneCell']) ?_)
   exact do_ret X2.out ST.out (OwnEn.nil _ _) DD.out K2.out HX.out.1 HX.out.2 rfl
 by_cases hk2 : kd = 2
 · obtain rfl : kd = 2 := hk2
   have k1 : ((2 : Int) == 1) = false := rfl; have k2 : ((2 : Int) == 2) = true := rfl; have KK := hid (iPutD B d mb t D L vS S vR Q hT hSL ky ⟨#[]⟩ true hk6 (fun _ => rfl) W1 D1.out HB1); clear hD hB b1 hT HB1 hk ht hq hk6
   go_enter Tryz.func25, Tryz.ntmps25
   go_upto_region 1 with fail
   rw [← hW1]; clear hW1
   go_wp2_with fail
   refine KK.out.mono ?_
   rintro e w2 ⟨⟨cd, t2, rfl, hs, D2, L2, hD2, hl2⟩, hK2⟩
   have ST := hid (hs ⟨2, ky, tx, oq, til, lm⟩ rfl rfl fun q => Bool.noConfusion q); have DD : Hid (DkW w2 B d t2) := ⟨_, _, _, _, _, _, _, hD2, hl2⟩; clear hs hD2 hl2; have X2 := hid (hK2.row _ _ _ X1.out (by decide) (by decide)); have K2 := hid (K1.out.trans hK2); clear KK hK2
   go_wp2_with (refine wpList_store_row rfl 41 (.tmp 4) (.tmp 24) rfl (W.heap.size + 1) #[.int .i64 cd, .string ⟨#[]⟩, .slice none 0 0] rfl rfl _ _ X2.out (by kernel_rfl) rfl (by simp [Value.oneCell']) ?_)
   exact do_ret X2.out ST.out (OwnEn.nil _ _) DD.out K2.out HX.out.1 HX.out.2 rfl
 by_cases hk3 : kd = 3
 · obtain rfl : kd = 3 := hk3
   have k1 : ((3 : Int) == 1) = false := rfl; have k2 : ((3 : Int) == 2) = false := rfl; have k3 : ((3 : Int) == 3) = true := rfl; have KK := hid (iFlush B d mb t D L vS S vR Q hT W1 D1.out HB1); clear hD hB b1 hT HB1 hk ht hq hk6
   go_enter Tryz.func25, Tryz.ntmps25
   go_upto_region 1 with fail
   rw [← hW1]; clear hW1
   go_wp2_with fail
   refine KK.out.mono ?_
   rintro e w2 ⟨⟨cd, t2, rfl, hs, mb2, D2, L2, vS2, S2, vR2, Q2, hD2, hl2⟩, hK2⟩
   have ST := hid (hs ky tx oq til lm); have DD : Hid (DkW w2 B d t2) := ⟨_, _, _, _, _, _, _, hD2, hl2 hSL⟩; clear hs hD2 hl2; have X2 := hid (hK2.row _ _ _ X1.out (by decide) (by decide)); have K2 := hid (K1.out.trans hK2); clear KK hK2
   go_wp2_with (refine wpList_store_row rfl 41 (.tmp 4) (.tmp 29) rfl (W.heap.size + 1) #[.int .i64 cd, .string ⟨#[]⟩, .slice none 0 0] rfl rfl _ _ X2.out (by kernel_rfl) rfl (by simp [Value.oneCell']) ?_)
   exact do_ret X2.out ST.out (OwnEn.nil _ _) DD.out K2.out HX.out.1 HX.out.2 rfl
 by_cases hk4 : kd = 4
 · obtain rfl : kd = 4 := hk4
   have k1 : ((4 : Int) == 1) = false := rfl; have k2 : ((4 : Int) == 2) = false := rfl; have k3 : ((4 : Int) == 3) = false := rfl; have k4 : ((4 : Int) == 4) = true := rfl; have KK := hid (iComp B d mb t D L vS S vR Q hT oq W1 D1.out HB1); clear hD hB b1 hT HB1 hk ht hq hk6
   go_enter Tryz.func25, Tryz.ntmps25
   go_upto_region 1 with fail
   rw [← hW1]; clear hW1
   go_wp2_with fail
   refine KK.out.mono ?_
   rintro e w2 ⟨⟨cd, t2, vR2, Q2, rfl, hs, hD2⟩, hK2⟩
   have ST := hid (hs ky tx til lm); have DD : Hid (DkW w2 B d t2) := ⟨_, _, _, _, _, _, _, hD2, hSL⟩; clear hs hD2; have X2 := hid (hK2.row _ _ _ X1.out (by decide) (by decide)); have K2 := hid (K1.out.trans hK2); clear KK hK2
   go_wp2_with (refine wpList_store_row rfl 41 (.tmp 4) (.tmp 36) rfl (W.heap.size + 1) #[.int .i64 cd, .string ⟨#[]⟩, .slice none 0 0] rfl rfl _ _ X2.out (by kernel_rfl) rfl (by simp [Value.oneCell']) ?_)
   exact do_ret X2.out ST.out (OwnEn.nil _ _) DD.out K2.out HX.out.1 HX.out.2 rfl
 by_cases hk5 : kd = 5
 · obtain rfl : kd = 5 := hk5
   have k1 : ((5 : Int) == 1) = false := rfl; have k2 : ((5 : Int) == 2) = false := rfl; have k3 : ((5 : Int) == 3) = false := rfl; have k4 : ((5 : Int) == 4) = false := rfl; have k5 : ((5 : Int) == 5) = true := rfl; have HLF := hid hD.len; have KK := hid (iGet B d mb t D L vS S vR Q hT ky hk6 oq hq W1 D1.out HB1); clear hD hB b1 hT HB1 hk ht hq hk6
   go_enter Tryz.func25, Tryz.ntmps25
   go_upto_region 1 with fail
   rw [← hW1]; clear hW1
   go_wp2_with fail
   refine KK.out.mono ?_
   rintro e w2 ⟨⟨cd, tx2, rfl, hs, vS2, S2, hD2, hl2⟩, hK2⟩
   have ST := hid (hs tx til lm); have DD : Hid (DkW w2 B d t) := ⟨_, _, _, _, _, _, _, hD2, hl2.elim (fun e => by rw [e]; exact hSL) (fun e => by rw [e, HLF.out]; exact Nat.le_refl _)⟩; clear hs hD2 hl2; have X2 := hid (hK2.row _ _ _ X1.out (by decide) (by decide)); have K2 := hid (K1.out.trans hK2); clear KK hK2
   go_wp2_with (refine wpList_store_row rfl 41 (.tmp 4) (.tmp 44) rfl (W.heap.size + 1) #[.int .i64 cd, .string tx2, .slice none 0 0] rfl rfl _ _ X2.out (by kernel_rfl) rfl (by simp [Value.oneCell']) ?_)
   exact do_ret X2.out ST.out (OwnEn.nil _ _) DD.out K2.out HX.out.1 HX.out.2 rfl
 by_cases hk6' : kd = 6
 · obtain rfl : kd = 6 := hk6'
   have k1 : ((6 : Int) == 1) = false := rfl; have k2 : ((6 : Int) == 2) = false := rfl; have k3 : ((6 : Int) == 3) = false := rfl; have k4 : ((6 : Int) == 4) = false := rfl; have k5 : ((6 : Int) == 5) = false := rfl; have k6 : ((6 : Int) == 6) = true := rfl; have HLF := hid hD.len; have KK := hid (iDScan B d mb t D L vS S vR Q hT 6 ky tx oq til lm hk ht W1 D1.out HB1); clear hD hB b1 hT HB1 hk ht hq hk6
   go_enter Tryz.func25, Tryz.ntmps25
   go_upto_region 1 with fail
   rw [← hW1]; clear hW1
   go_wp2_with fail
   refine KK.out.mono ?_
   rintro e w2 ⟨⟨cd, v2, en, rfl, hO, hs, vS2, S2, hD2, hl2⟩, hK2⟩
   obtain ⟨a2, c2, hv2⟩ := hO.slice; obtain ⟨n2, hn2⟩ : ∃ x, x = en.length := ⟨_, rfl⟩; rw [← hn2] at hv2; subst hv2; have ST := hid hs; have OO := hid hO; have DD : Hid (DkW w2 B d t) := ⟨_, _, _, _, _, _, _, hD2, hl2.elim (fun e => by rw [e]; exact hSL) (fun e => by rw [e, HLF.out]; exact Nat.le_refl _)⟩; clear hs hD2 hl2 hO hn2; have X2 := hid (hK2.row _ _ _ X1.out (by decide) (by decide)); have K2 := hid (K1.out.trans hK2); clear KK hK2
   go_wp2_with (refine wpList_store_row rfl 41 (.tmp 4) (.tmp 49) rfl (W.heap.size + 1) #[.int .i64 cd, .string ⟨#[]⟩, .slice a2 n2 c2] rfl rfl _ _ X2.out (by kernel_rfl) rfl (by simp [Value.oneCell']) ?_)
   exact do_ret X2.out ST.out OO.out DD.out K2.out HX.out.1 HX.out.2 rfl
 have k1 : (kd == 1) = false := by simpa using hk1
 have k2 : (kd == 2) = false := by simpa using hk2
 have k3 : (kd == 3) = false := by simpa using hk3
 have k4 : (kd == 4) = false := by simpa using hk4
 have k5 : (kd == 5) = false := by simpa using hk5
 have k6 : (kd == 6) = false := by simpa using hk6'
 have ST : Hid (Stp t ⟨kd, ky, tx, oq, til, lm⟩ t ⟨1, ⟨#[]⟩, []⟩) := .other hk1 hk2 hk3 hk4 hk5 hk6'; have DD : Hid (DkW W1 B d t) := ⟨_, _, _, _, _, _, _, D1.out, hSL⟩; clear hD hB b1 hT HB1 hk ht hq hk6 hk1 hk2 hk3 hk4 hk5 hk6'
 go_enter Tryz.func25, Tryz.ntmps25
 go_upto_region 1 with fail
 rw [← hW1]; clear hW1
 go_wp2_with (refine wpList_store_row rfl 41 (.tmp 4) (.tmp 50) rfl (W.heap.size + 1) #[.int .i64 1, .string ⟨#[]⟩, .slice none 0 0] rfl rfl _ _ X1.out (by kernel_rfl) rfl (by simp [Value.oneCell']) ?_)
 exact do_ret X1.out ST.out (OwnEn.nil _ _) DD.out K1.out HX.out.1 HX.out.2 rfl
end Go.Proofs.YtcbmgpdpjagaoaaGreat
