import Derived.Test.YtcbmgpdpjagaoaaGreatD3
import Derived.Test.YtcbmgpdpjagaoaaGreatDkN
import Derived.Deep.RegionLaw
namespace Go.Proofs.YtcbmgpdpjagaoaaGreat
open Go.RowKit
set_option linter.unusedVariables false
theorem rowN8 {w w' : World} {b c : Nat} {t : TypeId} {cs : Array Value} (r : RA w b t cs) (hg : w.grownBy w' (some c)) (hn : b ≠ c) : RA w' b t cs := (hg.block b r.lt (fun e => hn (Option.some.inj e))).trans r
theorem results_r_tmp {P : Program} {fn : Func} {p u : Tmp} {ty : TypeId} (h : fn.results = #[.cell p ty, .tmp u]) (tmps : Array Value) (w : World) (g : Nat) (t : TypeId) (cs : Array Value) (fr : Nat × Nat) (d : TypeDesc) (v : Value)
 (hp : tmps.getD p undef = .pointer (some ⟨g, 0, none⟩)) (hv : tmps.getD u undef = v) (hg : w.heap[g]? = some (.cells cs t fr))
 (hu : P.underlying ty = some d) (hd : (match d with | .struct _ | .array _ _ => true | _ => false) = true) (hi : (P.info? ty).map (·.size) = some cs.size) :
 (results fn tmps).run P w = .ok (.tuple #[.agg cs, v]) w := by
 have hp' : tmps[p]?.getD undef = .pointer (some ⟨g, 0, none⟩) := by simpa using hp
 have hv' : tmps[u]?.getD undef = v := by simpa using hv
 simp [results, h, hp', hv', asAddr, run_loadVar_row w g t ty cs fr d hg hu hd hi]
def DrT (w : World) (e : Ending) (w' : World) : Prop := (∃ s f aF nF cF F aR nR cR Q aO nO cO L, e = .returned (.tuple #[.agg #[.int .i64 s, .int .i64 f, .slice aF nF cF, .slice aR nR cR], .slice aO nO cO]) ∧ TbW w' w.heap.size (.slice aF nF cF) F (.slice aR nR cR) Q ∧ w'.ownsRow w.heap.size 39 6 (.slice aO nO cO) L.length (toL L) ∧ L.length = nO ∧ ToOk L ∧ nO ≤ 1000) ∧ Below w.heap.size w w'
theorem drt_end {w W : World} {s f : Int} {aF aR aO : Option Addr} {nF cF nR cR nO cO B : Nat} {F : List En} {Q : List (Value × List En)} {L : List TOp} {tm : Array Value} (hX : RA W w.heap.size 28 #[.int .i64 0, .int .i64 0, .slice none 0 0, .slice none 0 0]) (hb : Below w.heap.size w W) (hQ : TbW W B (.slice aF nF cF) F (.slice aR nR cR) Q) (hO : W.ownsRow B 39 6 (.slice aO nO cO) L.length (toL L)) (hL : L.length = nO) (hT : ToOk L) (hn : nO ≤ 1000) (hB : w.heap.size ≤ B) (h2 : tm.getD 2 undef = .pointer (some ⟨w.heap.size, 0, none⟩)) (h3 : tm.getD 3 undef = .slice aO nO cO) :
 bodyPost Tryz.prog Tryz.f5 (fun e w' => DrT w e w') Exit.ret { tmps := tm, defers := [] } ((((W.setCell ⟨w.heap.size, 0, none⟩ (.int .i64 s)).setCell ⟨w.heap.size, 1, none⟩ (.int .i64 f)).setCell ⟨w.heap.size, 2, none⟩ (.slice aF nF cF)).setCell ⟨w.heap.size, 3, none⟩ (.slice aR nR cR)) := by
 have ok : ∀ {g ty cs}, RA W g ty cs → ty ≠ 28 → RA ((((W.setCell ⟨w.heap.size, 0, none⟩ (.int .i64 s)).setCell ⟨w.heap.size, 1, none⟩ (.int .i64 f)).setCell ⟨w.heap.size, 2, none⟩ (.slice aF nF cF)).setCell ⟨w.heap.size, 3, none⟩ (.slice aR nR cR)) g ty cs := fun {g ty cs} r hne => by
  have h := row_ne r hX hne; exact (((r.other _ _ h).other _ _ h).other _ _ h).other _ _ h
 refine bodyPost_ret (v := .tuple #[.agg #[.int .i64 s, .int .i64 f, .slice aF nF cF, .slice aR nR cR], .slice aO nO cO]) ?_ rfl ⟨⟨s, f, aF, nF, cF, F, aR, nR, cR, Q, aO, nO, cO, L, rfl, ⟨(hQ.fr.keep fun g cs _ r => ok r (by decide)).baseUp hB, or_up8 (or_keep hQ.rs fun g cs _ r => ok r (by decide)) hB, fun p hp => ((hQ.ru p hp).keep fun g cs _ r => ok r (by decide)).baseUp hB, hQ.nF, hQ.nQ, hQ.tot, hQ.eF, hQ.eQ⟩, or_up8 (or_keep hO fun g cs _ r => ok r (by decide)) hB, hL, hT, hn⟩, (((hb.setCell (Nat.le_refl _) _).setCell (Nat.le_refl _) _).setCell (Nat.le_refl _) _).setCell (Nat.le_refl _) _⟩; exact results_r_tmp Tryz.results5 _ _ w.heap.size _ _ _ _ _ h2 h3 ((((hX.set 0 _).set 1 _).set 2 _).set 3 _) Tryz.underlying28 rfl (by kernel_rfl)
set_option maxRecDepth 20000 in
set_option maxHeartbeats 16000000 in
theorem drawRT_all (w : World) (a : Option Addr) (len cap : Nat) (hc : CodeOk w a len) (hlc : len ≤ cap) :
 Calls Tryz.prog 5 #[.slice a len cap] w fun e w' => DrT w e w' := by
 obtain ⟨w0, hw0⟩ : ∃ W, W = w.alloc (.cells #[.int .i64 0, .int .i64 0, .slice none 0 0, .slice none 0 0] 28) := ⟨_, rfl⟩; have b0 : Below w.heap.size w w0 := by rw [hw0]; exact (Below.refl _ _).alloc (Nat.le_refl _) _
 have X0 : Hid (RA w0 w.heap.size 28 #[.int .i64 0, .int .i64 0, .slice none 0 0, .slice none 0 0]) := by rw [hw0]; exact RA.new _ _ _
 have B0 := hid b0; have KS := hid (source_all w0 a len cap (hc.below b0) hlc); clear hc hlc b0
 go_enter Tryz.func5, Tryz.ntmps5
 go_upto_region 1 with fail
 rw [← hw0]; clear hw0
 go_wp2_with fail
 refine KS.out.mono ?_
 rintro e w1 ⟨rfl, hs1, hb1⟩
 have S1 := hid hs1; have X1 := hid (X0.out.below hb1 X0.out.lt); have B1 := hid (B0.out.trans (hb1.mono B0.out.size)); have C1 : Hid (w0.heap.size < w1.heap.size ∧ w.heap.size < w0.heap.size) := ⟨hs1.lt, X0.out.lt⟩; have KT := hid (table_all w0 w1 w0.heap.size a len cap 0 S1.out (by omega)); clear hs1 hb1 KS X0 B0
 go_wp2_with fail
 refine KT.out.mono ?_
 rintro e w2 ⟨⟨t, vF, vR, Q, rfl, hTK, hTV⟩, ⟨p2, hs2, hp2⟩, hg2⟩
 have hX := hTV.x hTK; obtain ⟨s, hs⟩ : ∃ s, s = t.sq := ⟨_, rfl⟩; obtain ⟨f, hf⟩ : ∃ f, f = t.fl := ⟨_, rfl⟩; rw [← hs, ← hf]; clear hs hf hTV hTK; obtain ⟨F, hF⟩ : ∃ F, F = t.fr := ⟨_, rfl⟩; rw [← hF] at hX; clear hF
 obtain ⟨aF, nF, cF, hvF⟩ : ∃ a n c, vF = .slice a n c := by obtain ⟨a, c, h⟩ := hX.fr.slice; exact ⟨a, _, c, h⟩
 obtain ⟨aR, nR, cR, hvR⟩ : ∃ a n c, vR = .slice a n c := by obtain ⟨a, c, h⟩ := or_slice hX.rs; exact ⟨a, _, c, h⟩
 subst hvF hvR; have X2 := hid (rowN8 X1.out hg2 (Nat.ne_of_lt C1.out.2)); have B2 : Hid (Below w.heap.size w w2) := B1.out.grown hg2 B1.out.size (fun g e => by have e1 : w0.heap.size = g := Option.some.inj e; have := C1.out; omega); obtain ⟨W3, hW3⟩ : ∃ W, W = w2.alloc (.cells #[.int .i64 s, .int .i64 f, .slice aF nF cF, .slice aR nR cR] 28) := ⟨_, rfl⟩; have T3 : Hid (RA W3 w2.heap.size 28 #[.int .i64 s, .int .i64 f, .slice aF nF cF, .slice aR nR cR]) := by rw [hW3]; exact RA.new _ _ _
 have b3 : Below w2.heap.size w2 W3 := by rw [hW3]; exact (Below.refl _ _).alloc (Nat.le_refl _) _
 have S3 : Hid (Src w0 W3 w0.heap.size a len cap p2) := by rw [hW3]; exact hs2.alloc _
 have X3 := hid (X2.out.below b3 X2.out.lt); have B3 := hid (B2.out.trans (b3.mono B2.out.size)); have Q3 : Hid (TbW W3 w1.heap.size (.slice aF nF cF) F (.slice aR nR cR) Q) := ⟨hX.fr.below b3, or_keep hX.rs fun g cs e r => r.below b3 r.lt, fun p hp => (hX.ru p hp).below b3, hX.nF, hX.nQ, hX.tot, hX.eF, hX.eQ⟩; have Z3 : Hid (w1.heap.size ≤ w2.heap.size ∧ w2.heap.size < W3.heap.size) := ⟨hg2.size, T3.out.lt⟩; obtain ⟨Y, hY⟩ : ∃ y, y = w2.heap.size := ⟨_, rfl⟩
 go_upto_region 3 with ((refine wpList_store_row rfl 28 (.tmp 5) (.tmp 9) rfl w2.heap.size #[.int .i64 s, .int .i64 f, .slice aF nF cF, .slice aR nR cR] rfl rfl _ _ (RA.new w2 _ _) (by kernel_rfl) rfl (by simp [Value.oneCell']) ?_); rw [World.setRow_alloc_new])
 rw [← hW3, ← hY]; rw [← hY] at T3 Z3; have KO := hid (one_all w0 W3 w0.heap.size a len cap p2 12 S3.out (by omega) (by omega) (by omega)); clear hW3 hY b3 hs2 hg2 hX KT X1 B1 S1 X2 B2
 go_wp2_with fail
 refine KO.out.mono ?_
 rintro e w4 ⟨⟨b4, rfl⟩, hs4, hg4⟩
 have S4 := hid hs4; have T4 := hid (rowF T3.out hg4 (by have := Z3.out; have := C1.out; omega)); have X4 := hid (rowN8 X3.out hg4 (Nat.ne_of_lt C1.out.2)); have B4 : Hid (Below w.heap.size w w4) := B3.out.grown hg4 B3.out.size (fun g e => by have e1 : w0.heap.size = g := Option.some.inj e; have := C1.out; omega); have Q4 := hid (Q3.out.far hg4 C1.out.1 (Nat.le_refl _)); have Z4 : Hid (w1.heap.size ≤ Y ∧ Y < w4.heap.size) := ⟨Z3.out.1, T4.out.lt⟩; clear hs4 hg4 KO S3 T3 X3 B3 Q3 Z3
 cases b4 with
 | false =>
  obtain ⟨W6, hW6⟩ : ∃ W, W = w4 := ⟨_, rfl⟩; rw [← hW6] at S4 T4 X4 B4 Q4 Z4; obtain ⟨p6, hp6⟩ : ∃ x, x = p2 + 1 := ⟨_, rfl⟩; have hp6b : p6 ≤ 30000 := by omega
  have S6 : Hid (Src w0 W6 w0.heap.size a len cap p6) := by rw [hp6]; exact S4.out
  have T6 := T4; have X6 := X4; have B6 := B4; have Q6 := Q4; have HS6 : Hid (w1.heap.size ≤ W6.heap.size) := by have := Z4.out; show _ ≤ _; omega
  have CT : Hid (w.heap.size < w0.heap.size ∧ w0.heap.size < Y) := ⟨C1.out.2, by have := Z4.out; have := C1.out; omega⟩; have C2 := hid C1.out.1; clear hp6 S4 T4 X4 B4 Q4 Z4 C1
  go_upto_region 5 with fail
  rw [← hW6]; clear hW6; obtain ⟨z, hz, hz0, hz1⟩ := S6.out.1; have zc : W6.cell? ⟨w0.heap.size, 2, none⟩ = some (.int .i64 z) := Blk.cell hz 2 _ rfl; obtain ⟨zn, rfl⟩ := Int.eq_ofNat_of_zero_le hz0; have wz : IntKind.i64.wrap (10 + (zn : Int)) = 10 + (zn : Int) := by simp [IntKind.wrap, IntKind.bits, IntKind.signed]; omega
  have t0 := T6.out.cell 0; have t1 := T6.out.cell 1; have t2 := T6.out.cell 2; have t3 := T6.out.cell 3; have N5 := fun wx (hx : Src w0 wx w0.heap.size a len cap p6) => hid (n_all w0 wx w0.heap.size a len cap p6 (10 + (zn : Int)) hx (by omega) (by omega) (by omega)); clear hz
  go_region_law (first
   | (go_simp; go_at_call 21; (first | refine (N5 _ S6.out).out.mono ?_ | refine (N5 _ S6.out.drew).out.mono ?_); rintro e w7 ⟨⟨r, rfl, hr0, hr1⟩, hs7, hg⟩; have hg7 : W6.grownBy w7 (some w0.heap.size) := ⟨hg.os, hg.tape, hg.output, hg.size, hg.block⟩; obtain ⟨rn, rfl⟩ := Int.eq_ofNat_of_zero_le hr0; have T7 := hid (rowF T6.out hg7 CT.out.2); have X7 := hid (rowN8 X6.out hg7 (Nat.ne_of_lt CT.out.1)); have S7 := hid hs7; have G7 := hid hg7; have hrb : rn ≤ 30 := (by omega); clear hs7 hg hg7; have u0 := T7.out.cell 0; have u1 := T7.out.cell 1; have u2 := T7.out.cell 2; have u3 := T7.out.cell 3; dsimp only)
   | (go_simp; go_at_call 20; refine (tops_all w0 w7 w0.heap.size a len cap (p6 + 1) S7.out rn (by omega) (by omega)).mono ?_; rintro e w8 ⟨⟨v8, L, rfl, hL, hO8, hTo⟩, ⟨p8, hs8, hp8⟩, hg8⟩; obtain ⟨a8, c8, hv8⟩ := or_slice hO8; rw [hL] at hv8; subst hv8; have T8 := hid (rowF T7.out hg8 CT.out.2); have X8 := hid (rowN8 X7.out hg8 (Nat.ne_of_lt CT.out.1)); have G8 : Hid (W6.grownBy w8 (some w0.heap.size)) := grown_trans G7.out hg8; have O8 := hid (or_up8 hO8 (Nat.le_trans HS6.out G7.out.size)); have HL := hid hL; have HT := hid hTo; clear hO8 hs8 hg8 hTo hL; have v0 := T8.out.cell 0; have v1 := T8.out.cell 1; have v2 := T8.out.cell 2; have v3 := T8.out.cell 3; have y0 : w8.cell? ⟨w.heap.size, 0, none⟩ = some (.int .i64 0) := X8.out.cell 0; have y1 : w8.cell? ⟨w.heap.size, 1, none⟩ = some (.int .i64 0) := X8.out.cell 1; have y2 : w8.cell? ⟨w.heap.size, 2, none⟩ = some (.slice none 0 0) := X8.out.cell 2; have y3 : w8.cell? ⟨w.heap.size, 3, none⟩ = some (.slice none 0 0) := X8.out.cell 3; have f0 := X8.out.free 0; have f1 := X8.out.free 1; have f2 := X8.out.free 2; have f3 := X8.out.free 3; dsimp only))
  all_goals go_wp2_with fail
  all_goals exact drt_end X8.out (B6.out.grown G8.out B6.out.size (fun g e => by have e1 : w0.heap.size = g := Option.some.inj e; have := CT.out; omega)) (Q6.out.far G8.out C2.out (Nat.le_refl _)) O8.out HL.out HT.out (by omega) (by have z1 := CT.out; have z2 := C2.out; omega) rfl rfl
 | true =>
  have hp2b : p2 + 1 ≤ 30000 := by omega
  have KA := hid (anyT_all w0 w4 w0.heap.size a len cap (p2 + 1) S4.out hp2b); clear Q4
  go_wp2_with fail
  refine KA.out.mono ?_
  rintro e w5 ⟨⟨s5, f5, vF5, F5, vR5, Q5, rfl, hX5⟩, ⟨p6, hs5, hp6⟩, hg5⟩
  obtain ⟨aF5, nF5, cF5, hvF5⟩ : ∃ a n c, vF5 = .slice a n c := by obtain ⟨a, c, h⟩ := hX5.fr.slice; exact ⟨a, _, c, h⟩
  obtain ⟨aR5, nR5, cR5, hvR5⟩ : ∃ a n c, vR5 = .slice a n c := by obtain ⟨a, c, h⟩ := or_slice hX5.rs; exact ⟨a, _, c, h⟩
  subst hvF5 hvR5; have T5 := rowF T4.out hg5 (by have := Z4.out; have := C1.out; omega); have X5 := rowN8 X4.out hg5 (Nat.ne_of_lt C1.out.2); have B5 : Below w.heap.size w w5 := B4.out.grown hg5 B4.out.size (fun g e => by have e1 : w0.heap.size = g := Option.some.inj e; have := C1.out; omega); obtain ⟨W6, hW6⟩ : ∃ W, W = w5.setRow Y #[.int .i64 s5, .int .i64 f5, .slice aF5 nF5 cF5, .slice aR5 nR5 cR5] := ⟨_, rfl⟩; have ok6 : ∀ {g ty cs}, RA w5 g ty cs → g ≠ Y → RA W6 g ty cs := fun {g ty cs} r hne => by rw [hW6]; exact r.otherRow _ _ hne
  have hp6b : p6 ≤ 60000 := by omega
  have S6 : Hid (Src w0 W6 w0.heap.size a len cap p6) := by rw [hW6]; exact hs5.setRowD (by have := Z4.out; have := C1.out; omega) _
  have T6 : Hid (RA W6 Y 28 #[.int .i64 s5, .int .i64 f5, .slice aF5 nF5 cF5, .slice aR5 nR5 cR5]) := by rw [hW6]; exact T5.setRow _
  have X6 := hid (ok6 X5 (by have := Z4.out; have := C1.out; omega)); have B6 : Hid (Below w.heap.size w W6) := by rw [hW6]; exact below_setRow B5 _ _ (by have := Z4.out; have := C1.out; omega)
  have Q6 : Hid (TbW W6 w1.heap.size (.slice aF5 nF5 cF5) F5 (.slice aR5 nR5 cR5) Q5) := by
   have hb6 : w1.heap.size ≤ w4.heap.size := by have := Z4.out; omega
   exact ⟨(hX5.fr.keep fun g cs _ r => ok6 r (row_ne r T5 (by decide))).baseUp hb6, or_up8 (or_keep hX5.rs fun g cs _ r => ok6 r (row_ne r T5 (by decide))) hb6, fun p hp => ((hX5.ru p hp).keep fun g cs _ r => ok6 r (row_ne r T5 (by decide))).baseUp hb6, hX5.nF, hX5.nQ, hX5.tot, hX5.eF, hX5.eQ⟩
  have HS6 : Hid (w1.heap.size ≤ W6.heap.size) := by have z1 := Z4.out; have z2 := T6.out.lt; show _ ≤ _; omega
  have CT : Hid (w.heap.size < w0.heap.size ∧ w0.heap.size < Y) := ⟨C1.out.2, by have := Z4.out; have := C1.out; omega⟩; have C2 := hid C1.out.1; have HT5 := hid T5; have HW6 := hid hW6; clear hp6 S4 T4 X4 B4 Z4 C1 ok6 hX5 KA X5 B5 T5 hs5 hg5 hW6
  go_upto_region 5 with (refine wpList_store_row rfl 28 (.tmp 5) (.tmp 13) rfl Y #[.int .i64 s5, .int .i64 f5, .slice aF5 nF5 cF5, .slice aR5 nR5 cR5] rfl rfl _ _ HT5.out (by kernel_rfl) rfl (by simp [Value.oneCell']) ?_)
  rw [← HW6.out]; clear HW6 HT5; obtain ⟨z, hz, hz0, hz1⟩ := S6.out.1; have zc : W6.cell? ⟨w0.heap.size, 2, none⟩ = some (.int .i64 z) := Blk.cell hz 2 _ rfl; obtain ⟨zn, rfl⟩ := Int.eq_ofNat_of_zero_le hz0; have wz : IntKind.i64.wrap (10 + (zn : Int)) = 10 + (zn : Int) := by simp [IntKind.wrap, IntKind.bits, IntKind.signed]; omega
  have t0 := T6.out.cell 0; have t1 := T6.out.cell 1; have t2 := T6.out.cell 2; have t3 := T6.out.cell 3; have N5 := fun wx (hx : Src w0 wx w0.heap.size a len cap p6) => hid (n_all w0 wx w0.heap.size a len cap p6 (10 + (zn : Int)) hx (by omega) (by omega) (by omega)); clear hz
  go_region_law (first
   | (go_simp; go_at_call 21; (first | refine (N5 _ S6.out).out.mono ?_ | refine (N5 _ S6.out.drew).out.mono ?_); rintro e w7 ⟨⟨r, rfl, hr0, hr1⟩, hs7, hg⟩; have hg7 : W6.grownBy w7 (some w0.heap.size) := ⟨hg.os, hg.tape, hg.output, hg.size, hg.block⟩; obtain ⟨rn, rfl⟩ := Int.eq_ofNat_of_zero_le hr0; have T7 := hid (rowF T6.out hg7 CT.out.2); have X7 := hid (rowN8 X6.out hg7 (Nat.ne_of_lt CT.out.1)); have S7 := hid hs7; have G7 := hid hg7; have hrb : rn ≤ 30 := (by omega); clear hs7 hg hg7; have u0 := T7.out.cell 0; have u1 := T7.out.cell 1; have u2 := T7.out.cell 2; have u3 := T7.out.cell 3; dsimp only)
   | (go_simp; go_at_call 20; refine (tops_all w0 w7 w0.heap.size a len cap (p6 + 1) S7.out rn (by omega) (by omega)).mono ?_; rintro e w8 ⟨⟨v8, L, rfl, hL, hO8, hTo⟩, ⟨p8, hs8, hp8⟩, hg8⟩; obtain ⟨a8, c8, hv8⟩ := or_slice hO8; rw [hL] at hv8; subst hv8; have T8 := hid (rowF T7.out hg8 CT.out.2); have X8 := hid (rowN8 X7.out hg8 (Nat.ne_of_lt CT.out.1)); have G8 : Hid (W6.grownBy w8 (some w0.heap.size)) := grown_trans G7.out hg8; have O8 := hid (or_up8 hO8 (Nat.le_trans HS6.out G7.out.size)); have HL := hid hL; have HT := hid hTo; clear hO8 hs8 hg8 hTo hL; have v0 := T8.out.cell 0; have v1 := T8.out.cell 1; have v2 := T8.out.cell 2; have v3 := T8.out.cell 3; have y0 : w8.cell? ⟨w.heap.size, 0, none⟩ = some (.int .i64 0) := X8.out.cell 0; have y1 : w8.cell? ⟨w.heap.size, 1, none⟩ = some (.int .i64 0) := X8.out.cell 1; have y2 : w8.cell? ⟨w.heap.size, 2, none⟩ = some (.slice none 0 0) := X8.out.cell 2; have y3 : w8.cell? ⟨w.heap.size, 3, none⟩ = some (.slice none 0 0) := X8.out.cell 3; have f0 := X8.out.free 0; have f1 := X8.out.free 1; have f2 := X8.out.free 2; have f3 := X8.out.free 3; dsimp only))
  all_goals go_wp2_with fail
  all_goals exact drt_end X8.out (B6.out.grown G8.out B6.out.size (fun g e => by have e1 : w0.heap.size = g := Option.some.inj e; have := CT.out; omega)) (Q6.out.far G8.out C2.out (Nat.le_refl _)) O8.out HL.out HT.out (by omega) (by have z1 := CT.out; have z2 := C2.out; omega) rfl rfl
end Go.Proofs.YtcbmgpdpjagaoaaGreat
