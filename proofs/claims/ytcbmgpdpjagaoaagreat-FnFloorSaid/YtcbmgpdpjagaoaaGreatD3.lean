import Derived.Test.YtcbmgpdpjagaoaaGreatD1
import Derived.Test.YtcbmgpdpjagaoaaGreatG3
import Derived.Test.YtcbmgpdpjagaoaaGreatT1
import Derived.Deep.AppendLies
import Derived.Test.YtcbmgpdpjagaoaaGreatD2
namespace Go.Proofs.YtcbmgpdpjagaoaaGreat
open Go.RowKit
set_option linter.unusedVariables false
theorem flo_at (x : Int) (k : Nat) (hk : k < 3) : ∃ y : Int, (#[.int .i64 (-1), .int .i64 x, .int .i64 (x + 1)] : Array Value)[k]? = some (.int .i64 y) := by
 rcases (by omega : k = 0 ∨ k = 1 ∨ k = 2) with rfl | rfl | rfl
 all_goals exact ⟨_, rfl⟩
def at6o0 : Oper := ⟨some 16, .fieldAddr 28 (.tmp 3) 0, 0, "l08_runs.go:273", #[], none⟩
def at6o1 : Oper := ⟨some 17, .load 2 (.tmp 16), 2, "l08_runs.go:273", #[⟨0, .data⟩], none⟩
def at6o2 : Oper := ⟨some 18, .fieldAddr 28 (.tmp 3) 0, 0, "l08_runs.go:273", #[], none⟩
def at6o3 : Oper := ⟨some 19, .load 2 (.tmp 18), 2, "l08_runs.go:273", #[⟨2, .data⟩], none⟩
def at6o4 : Oper := ⟨some 20, .binOp .add 2 (.tmp 19) (.const (.int .i64 1)) 2, 2, "l08_runs.go:273", #[⟨3, .data⟩], none⟩
def at6o5 : Oper := ⟨some 21, .buildSlice 59 3 #[(0, .const (.int .i64 (-1))), (1, .tmp 17), (2, .tmp 20)], 59, "l08_runs.go:273", #[⟨1, .data⟩, ⟨4, .data⟩], none⟩
def at6o6 : Oper := ⟨some 22, .move (.tmp 0), 50, "l08_runs.go:273", #[], none⟩
def at6o7 : Oper := ⟨some 23, .call { callee := .value (.func 21), args := #[.tmp 22, .const (.int .i64 3)], argTypes := #[50, 2] }, 2, "l08_runs.go:273", #[⟨6, .data⟩], none⟩
def at6o8 : Oper := ⟨some 24, .indexAddr 59 (.tmp 21) (.tmp 23), 0, "l08_runs.go:273", #[⟨5, .data⟩, ⟨7, .data⟩], none⟩
def at6o9 : Oper := ⟨some 25, .load 2 (.tmp 24), 2, "l08_runs.go:273", #[⟨8, .data⟩], none⟩
def at6o10 : Oper := ⟨some 26, .fieldAddr 28 (.tmp 3) 1, 0, "l08_runs.go:273", #[⟨0, .phase⟩, ⟨1, .phase⟩, ⟨2, .phase⟩, ⟨3, .phase⟩, ⟨4, .phase⟩, ⟨5, .phase⟩, ⟨6, .phase⟩, ⟨7, .phase⟩, ⟨8, .phase⟩, ⟨9, .phase⟩], none⟩
def at6o11 : Oper := ⟨none, .store 2 (.tmp 26) (.tmp 25), 0, "l08_runs.go:273", #[⟨10, .data⟩, ⟨9, .data⟩, ⟨7, .chain⟩, ⟨0, .phase⟩, ⟨1, .phase⟩, ⟨2, .phase⟩, ⟨3, .phase⟩, ⟨4, .phase⟩, ⟨5, .phase⟩, ⟨6, .phase⟩, ⟨7, .phase⟩, ⟨8, .phase⟩, ⟨9, .phase⟩], none⟩
def at6O : Array Oper := #[at6o0, at6o1, at6o2, at6o3, at6o4, at6o5, at6o6, at6o7, at6o8, at6o9, at6o10, at6o11]
structure at6P where
 (W0 W1 : World)
 (c : Nat)
 (a : Option Addr)
 (len cap p Y : Nat)
 (sq fl : Int)
 (vF vR : Value)
 (s1 s2 s4 s5 s6 s7 s8 s9 s10 s11 s12 s13 s14 s15 s16 s17 s18 s19 s20 s21 s22 s23 s24 s25 s26 s27 s28 s29 s30 s31 s32 s33 s34 s35 s36 s37 s38 s39 s40 s41 s42 s43 s44 s45 s46 s47 s48 s49 s50 s51 s52 s53 s54 s55 s56 s57 s58 s59 s60 : Value)
def at6T (P : at6P) (X5 : Nat) (R7 : Nat) (fv : Int) (pp : Nat) (b0 b1 b2 b3 b4 b5 b6 b7 b8 b9 b10 b11 : Bool) : Array Value := #[.pointer (some ⟨P.c, 0, none⟩), P.s1, P.s2, .pointer (some ⟨P.Y, 0, none⟩), P.s4, P.s5, P.s6, P.s7, P.s8, P.s9, P.s10, P.s11, P.s12, P.s13, P.s14, P.s15, sel b0 (.pointer (some ⟨P.Y, 0, none⟩)) (P.s16), sel b1 (.int .i64 P.sq) (P.s17), sel b2 (.pointer (some ⟨P.Y, 0, none⟩)) (P.s18), sel b3 (.int .i64 P.sq) (P.s19), sel b4 (.int .i64 (P.sq + 1)) (P.s20), sel b5 (.slice (some ⟨X5, 0, none⟩) 3 3) (P.s21), sel b6 (.pointer (some ⟨P.c, 0, none⟩)) (P.s22), sel b7 (.int .i64 (R7 : Int)) (P.s23), sel b8 (.pointer (some ⟨X5, R7, none⟩)) (P.s24), sel b9 (.int .i64 fv) (P.s25), sel b10 (.pointer (some ⟨P.Y, 1, none⟩)) (P.s26), P.s27, P.s28, P.s29, P.s30, P.s31, P.s32, P.s33, P.s34, P.s35, P.s36, P.s37, P.s38, P.s39, P.s40, P.s41, P.s42, P.s43, P.s44, P.s45, P.s46, P.s47, P.s48, P.s49, P.s50, P.s51, P.s52, P.s53, P.s54, P.s55, P.s56, P.s57, P.s58, P.s59, P.s60]
def at6F (P : at6P) (X5 : Nat) (R7 : Nat) (fv : Int) (pp : Nat) (b0 b1 b2 b3 b4 b5 b6 b7 b8 b9 b10 b11 : Bool) (w : World) : Prop := (Src P.W0 w P.c P.a P.len P.cap pp) ∧ (pp ≤ P.p + 40 * (b7.toNat)) ∧ (P.W1.grownBy w (some P.c)) ∧ (P.c < P.W1.heap.size ∧ P.W1.heap.size ≤ P.Y) ∧ (b5 = true → b11 = false → RA w X5 2 #[.int .i64 (-1), .int .i64 P.sq, .int .i64 (P.sq + 1)] ∧ P.W1.heap.size ≤ X5) ∧ (b7 = true → R7 < 3) ∧ (RA w P.Y 28 (cond b11 #[.int .i64 P.sq, .int .i64 fv, P.vF, P.vR] #[.int .i64 P.sq, .int .i64 P.fl, P.vF, P.vR])) ∧ (P.p ≤ 900000 ∧ 0 ≤ P.sq ∧ P.sq ≤ 4611686018427387904)
def at6I (P : at6P) (l : Array Bool) (f : Act) (w : World) : Prop :=
 ∃ (b0 b1 b2 b3 b4 b5 b6 b7 b8 b9 b10 b11 : Bool) (X5 : Nat) (R7 : Nat) (fv : Int) (pp : Nat), l = #[b0, b1, b2, b3, b4, b5, b6, b7, b8, b9, b10, b11] ∧ f = { tmps := at6T P X5 R7 fv pp b0 b1 b2 b3 b4 b5 b6 b7 b8 b9 b10 b11, defers := [] } ∧ at6F P X5 R7 fv pp b0 b1 b2 b3 b4 b5 b6 b7 b8 b9 b10 b11 w
theorem at6M {P : at6P} {b0 b1 b2 b3 b4 b5 b6 b7 b8 b9 b10 b11 : Bool} (X5 : Nat) (R7 : Nat) (fv : Int) (pp : Nat) {l : Array Bool} {f : Act} {w : World} (hl : l = #[b0, b1, b2, b3, b4, b5, b6, b7, b8, b9, b10, b11]) (hf : f = { tmps := at6T P X5 R7 fv pp b0 b1 b2 b3 b4 b5 b6 b7 b8 b9 b10 b11, defers := [] }) (h : at6F P X5 R7 fv pp b0 b1 b2 b3 b4 b5 b6 b7 b8 b9 b10 b11 w) : at6I P l f w := ⟨b0, b1, b2, b3, b4, b5, b6, b7, b8, b9, b10, b11, X5, R7, fv, pp, hl, hf, h⟩
set_option maxRecDepth 20000 in
set_option maxHeartbeats 20000000 in
theorem at6_step {Q : Exit → Act → World → Prop} (P : at6P) (l : Array Bool) (f : Act) (w : World) (hC : Closed at6O l) (hI : at6I P l f w) (i : Nat) (h0 : l.getD i true = false) (o : Oper) (ho : at6O[i]? = some o) (h1 : ∀ e ∈ o.after, Region.binds .any e = true → l.getD e.on false = true) : wpOp Tryz.prog at6O Q i (at6I P (l.setIfInBounds i true)) f w := by
 obtain ⟨b0, b1, b2, b3, b4, b5, b6, b7, b8, b9, b10, b11, X5, R7, fv, pp, rfl, rfl, hF⟩ := hI
 have hi : i < 12 := by
  rcases Nat.lt_or_ge i 12 with h | h
  · exact h
  · rw [show at6O[i]? = none from Array.getElem?_eq_none h] at ho; cases ho
 rcases (by omega : i = 0 ∨ i = 1 ∨ i = 2 ∨ i = 3 ∨ i = 4 ∨ i = 5 ∨ i = 6 ∨ i = 7 ∨ i = 8 ∨ i = 9 ∨ i = 10 ∨ i = 11) with rfl | rfl | rfl | rfl | rfl | rfl | rfl | rfl | rfl | rfl | rfl | rfl
 · obtain rfl : at6o0 = o := Option.some.inj ho
   obtain rfl : b0 = false := h0
   have hn := wN9 hC (i := 0) rfl [(1, 0), (5, 1), (8, 5), (9, 8), (10, 0), (11, 0)] [] nk rfl; repeat (obtain ⟨rfl, hn⟩ := hn)
   obtain ⟨hS, hp, hg, hc, hu, hr7, hb, hk⟩ := hF; refine wpOp_step (o := at6o0) rfl (fun K hK => ?_); replace hK := hid hK; simp only [at6o0, at6T, sel_f]
   go_simp
   exact hK.out _ _ (at6M X5 R7 fv pp rfl rfl ⟨hS, hp, hg, hc, hu, hr7, hb, hk⟩)
 · obtain rfl : at6o1 = o := Option.some.inj ho
   obtain rfl : b1 = false := h0
   have hn := wP9 (o := at6o1) hC h1 [(0, none)] [] nk rfl; repeat (obtain ⟨rfl, hn⟩ := hn)
   have hn := wN9 hC (i := 1) rfl [(5, 1), (8, 5), (9, 8), (10, 1), (11, 1)] [] nk rfl; repeat (obtain ⟨rfl, hn⟩ := hn)
   obtain ⟨hS, hp, hg, hc, hu, hr7, hb, hk⟩ := hF; have RB : RA w P.Y 28 #[.int .i64 P.sq, .int .i64 P.fl, P.vF, P.vR] := hb; have q0 := RB.cell 0; refine wpOp_step (o := at6o1) rfl (fun K hK => ?_); replace hK := hid hK; simp only [at6o1, at6T, sel_t, sel_f]
   go_simp
   exact hK.out _ _ (at6M X5 R7 fv pp rfl rfl ⟨hS, hp, hg, hc, hu, hr7, hb, hk⟩)
 · obtain rfl : at6o2 = o := Option.some.inj ho
   obtain rfl : b2 = false := h0
   have hn := wN9 hC (i := 2) rfl [(3, 2), (4, 3), (5, 4), (8, 5), (9, 8), (10, 2), (11, 2)] [] nk rfl; repeat (obtain ⟨rfl, hn⟩ := hn)
   obtain ⟨hS, hp, hg, hc, hu, hr7, hb, hk⟩ := hF; refine wpOp_step (o := at6o2) rfl (fun K hK => ?_); replace hK := hid hK; simp only [at6o2, at6T, sel_f]
   go_simp
   exact hK.out _ _ (at6M X5 R7 fv pp rfl rfl ⟨hS, hp, hg, hc, hu, hr7, hb, hk⟩)
 · obtain rfl : at6o3 = o := Option.some.inj ho
   obtain rfl : b3 = false := h0
   have hn := wP9 (o := at6o3) hC h1 [(2, none)] [] nk rfl; repeat (obtain ⟨rfl, hn⟩ := hn)
   have hn := wN9 hC (i := 3) rfl [(4, 3), (5, 4), (8, 5), (9, 8), (10, 3), (11, 3)] [] nk rfl; repeat (obtain ⟨rfl, hn⟩ := hn)
   obtain ⟨hS, hp, hg, hc, hu, hr7, hb, hk⟩ := hF; have RB : RA w P.Y 28 #[.int .i64 P.sq, .int .i64 P.fl, P.vF, P.vR] := hb; have q0 := RB.cell 0; refine wpOp_step (o := at6o3) rfl (fun K hK => ?_); replace hK := hid hK; simp only [at6o3, at6T, sel_t, sel_f]
   go_simp
   exact hK.out _ _ (at6M X5 R7 fv pp rfl rfl ⟨hS, hp, hg, hc, hu, hr7, hb, hk⟩)
 · obtain rfl : at6o4 = o := Option.some.inj ho
   obtain rfl : b4 = false := h0
   have hn := wP9 (o := at6o4) hC h1 [(3, none), (2, some 3)] [] nk rfl; repeat (obtain ⟨rfl, hn⟩ := hn)
   have hn := wN9 hC (i := 4) rfl [(5, 4), (8, 5), (9, 8), (10, 4), (11, 4)] [] nk rfl; repeat (obtain ⟨rfl, hn⟩ := hn)
   obtain ⟨hS, hp, hg, hc, hu, hr7, hb, hk⟩ := hF; have wz : IntKind.i64.wrap (P.sq + 1) = P.sq + 1 := by have := hk.2; simp [IntKind.wrap, IntKind.bits, IntKind.signed]; omega
   refine wpOp_step (o := at6o4) rfl (fun K hK => ?_); replace hK := hid hK; simp only [at6o4, at6T, sel_t, sel_f]
   go_simp
   exact hK.out _ _ (at6M X5 R7 fv pp rfl rfl ⟨hS, hp, hg, hc, hu, hr7, hb, hk⟩)
 · obtain rfl : at6o5 = o := Option.some.inj ho
   obtain rfl : b5 = false := h0
   have hn := wP9 (o := at6o5) hC h1 [(4, none), (1, none), (3, some 4), (2, some 3), (0, some 1)] [] nk rfl; repeat (obtain ⟨rfl, hn⟩ := hn)
   have hn := wN9 hC (i := 5) rfl [(8, 5), (9, 8), (10, 5), (11, 5)] [] nk rfl; repeat (obtain ⟨rfl, hn⟩ := hn)
   obtain ⟨hS, hp, hg, hc, hu, hr7, hb, hk⟩ := hF; refine wpOp_step (o := at6o5) rfl (fun K hK => ?_); replace hK := hid hK; simp only [at6o5, at6T, sel_t, sel_f]
   go_simp
   exact hK.out _ _ (at6M w.heap.size R7 fv pp rfl rfl ⟨hS.alloc _, hp, grown_al hg _, hc, fun _ _ => ⟨RA.new w _ _, hg.size⟩, hr7, hb.alloc _, hk⟩)
 · obtain rfl : at6o6 = o := Option.some.inj ho
   obtain rfl : b6 = false := h0
   have hn := wN9 hC (i := 6) rfl [(7, 6), (8, 7), (9, 8), (10, 6), (11, 6)] [] nk rfl; repeat (obtain ⟨rfl, hn⟩ := hn)
   obtain ⟨hS, hp, hg, hc, hu, hr7, hb, hk⟩ := hF; simp only [Bool.toNat_false] at hp; refine wpOp_step (o := at6o6) rfl (fun K hK => ?_); replace hK := hid hK; simp only [at6o6, at6T, sel_f]
   go_simp
   exact hK.out _ _ (at6M X5 R7 fv pp rfl rfl ⟨hS, hp, hg, hc, hu, hr7, hb, hk⟩)
 · obtain rfl : at6o7 = o := Option.some.inj ho
   obtain rfl : b7 = false := h0
   have hn := wP9 (o := at6o7) hC h1 [(6, none)] [] nk rfl; repeat (obtain ⟨rfl, hn⟩ := hn)
   have hn := wN9 hC (i := 7) rfl [(8, 7), (9, 8), (10, 7), (11, 7)] [] nk rfl; repeat (obtain ⟨rfl, hn⟩ := hn)
   obtain ⟨hS, hp, hg, hc, hu, hr7, hb, hk⟩ := hF; simp only [Bool.toNat_false] at hp; have hk1 := hk.1; refine wpOp_step (o := at6o7) rfl (fun K hK => ?_); replace hK := hid hK; simp only [at6o7, at6T, sel_t, sel_f]
   go_simp
   refine (n_all P.W0 _ P.c P.a P.len P.cap pp 3 hS (by omega) (by omega) (by omega)).mono ?_
   rintro e w2 ⟨⟨r, rfl, h20, h21⟩, hs2, hg2⟩
   obtain ⟨R, rfl⟩ := Int.eq_ofNat_of_zero_le h20; dsimp only; exact hK.out _ _ (at6M X5 R fv (pp + 1) rfl rfl ⟨hs2, by show pp + 1 ≤ P.p + 40 * (1); omega, grown_trans hg hg2, hc, fun h e => ⟨rowF (hu h e).1 hg2 (by have := (hu h e).2; have := hc.1; omega), (hu h e).2⟩, fun _ => by omega, rowF hb hg2 (by have := hc.1; have := hc.2; omega), hk⟩)
 · obtain rfl : at6o8 = o := Option.some.inj ho
   obtain rfl : b8 = false := h0
   have hn := wP9 (o := at6o8) hC h1 [(7, none), (5, none), (6, some 7), (1, some 5), (4, some 5), (3, some 4), (2, some 3), (0, some 1)] [] nk rfl; repeat (obtain ⟨rfl, hn⟩ := hn)
   have hn := wN9 hC (i := 8) rfl [(9, 8), (10, 8), (11, 8)] [] nk rfl; repeat (obtain ⟨rfl, hn⟩ := hn)
   obtain ⟨hS, hp, hg, hc, hu, hr7, hb, hk⟩ := hF; simp only [Bool.toNat_true] at hp; have r := hr7 rfl; have r0 : (R7 : Int) < 3 := by omega
   refine wpOp_step (o := at6o8) rfl (fun K hK => ?_); replace hK := hid hK; simp only [at6o8, at6T, sel_t, sel_f]
   go_simp
   exact hK.out _ _ (at6M X5 R7 fv pp rfl rfl ⟨hS, hp, hg, hc, hu, hr7, hb, hk⟩)
 · obtain rfl : at6o9 = o := Option.some.inj ho
   obtain rfl : b9 = false := h0
   have hn := wP9 (o := at6o9) hC h1 [(8, none), (5, some 8), (7, some 8), (6, some 7), (1, some 5), (4, some 5), (3, some 4), (2, some 3), (0, some 1)] [] nk rfl; repeat (obtain ⟨rfl, hn⟩ := hn)
   have hn := wN9 hC (i := 9) rfl [(10, 9), (11, 9)] [] nk rfl; repeat (obtain ⟨rfl, hn⟩ := hn)
   obtain ⟨hS, hp, hg, hc, hu, hr7, hb, hk⟩ := hF; simp only [Bool.toNat_true] at hp; obtain ⟨k2, hk2⟩ := flo_at P.sq R7 (hr7 rfl); have c2 := ((hu rfl rfl).1.cell R7).trans hk2; refine wpOp_step (o := at6o9) rfl (fun K hK => ?_); replace hK := hid hK; simp only [at6o9, at6T, sel_t, sel_f]
   go_simp
   exact hK.out _ _ (at6M X5 R7 k2 pp rfl rfl ⟨hS, hp, hg, hc, hu, hr7, hb, hk⟩)
 · obtain rfl : at6o10 = o := Option.some.inj ho
   obtain rfl : b10 = false := h0
   have hn := wP9 (o := at6o10) hC h1 [(9, none), (8, none), (7, none), (6, none), (5, none), (4, none), (3, none), (2, none), (1, none), (0, none)] [] nk rfl; repeat (obtain ⟨rfl, hn⟩ := hn)
   have hn := wN9 hC (i := 10) rfl [(11, 10)] [] nk rfl; repeat (obtain ⟨rfl, hn⟩ := hn)
   obtain ⟨hS, hp, hg, hc, hu, hr7, hb, hk⟩ := hF; simp only [Bool.toNat_true] at hp; refine wpOp_step (o := at6o10) rfl (fun K hK => ?_); replace hK := hid hK; simp only [at6o10, at6T, sel_t, sel_f]
   go_simp
   exact hK.out _ _ (at6M X5 R7 fv pp rfl rfl ⟨hS, hp, hg, hc, hu, hr7, hb, hk⟩)
 · obtain rfl : at6o11 = o := Option.some.inj ho
   obtain rfl : b11 = false := h0
   have hn := wP9 (o := at6o11) hC h1 [(10, none), (9, none), (8, none), (7, none), (6, none), (5, none), (4, none), (3, none), (2, none), (1, none), (0, none)] [] nk rfl; repeat (obtain ⟨rfl, hn⟩ := hn)
   obtain ⟨hS, hp, hg, hc, hu, hr7, hb, hk⟩ := hF; simp only [Bool.toNat_true] at hp; have RB : RA w P.Y 28 #[.int .i64 P.sq, .int .i64 P.fl, P.vF, P.vR] := hb; have hcx : P.c < P.Y := by have := hc.1; have := hc.2; omega
   have q1 := RB.cell 1; have f1 := RB.free 1; refine wpOp_step (o := at6o11) rfl (fun K hK => ?_); replace hK := hid hK; simp only [at6o11, at6T, sel_t]
   go_simp
   exact hK.out _ _ (at6M X5 R7 fv pp rfl rfl ⟨hS.set hcx 1 _, hp, grown_far hg hc.2 1 _, hc, fun h e => Bool.noConfusion e, hr7, RB.set 1 _, hk⟩)
set_option maxRecDepth 20000 in
set_option maxHeartbeats 4000000 in
theorem at6_wp {Q : Exit → Act → World → Prop} {rid : Nat} (W0 W1 : World) (c : Nat) (a : Option Addr) (len cap p Y : Nat) (sq fl : Int) (vF vR : Value) {s1 s2 s4 s5 s6 s7 s8 s9 s10 s11 s12 s13 s14 s15 s16 s17 s18 s19 s20 s21 s22 s23 s24 s25 s26 s27 s28 s29 s30 s31 s32 s33 s34 s35 s36 s37 s38 s39 s40 s41 s42 s43 s44 s45 s46 s47 s48 s49 s50 s51 s52 s53 s54 s55 s56 s57 s58 s59 s60 : Value} (w : World) (hS : Src W0 w c a len cap p) (hg : W1.grownBy w (some c)) (hc : c < W1.heap.size ∧ W1.heap.size ≤ Y) (hb : RA w Y 28 #[.int .i64 sq, .int .i64 fl, vF, vR]) (hk : p ≤ 900000 ∧ 0 ≤ sq ∧ sq ≤ 4611686018427387904)
 (fin : ∀ (X5 : Nat) (R7 : Nat) (fv : Int) (pp : Nat) (w' : World), (Src W0 w' c a len cap pp) → (pp ≤ p + 40 * (1)) → (W1.grownBy w' (some c)) → (c < W1.heap.size ∧ W1.heap.size ≤ Y) → (R7 < 3) → (RA w' Y 28 (cond true #[.int .i64 sq, .int .i64 fv, vF, vR] #[.int .i64 sq, .int .i64 fl, vF, vR])) → (p ≤ 900000 ∧ 0 ≤ sq ∧ sq ≤ 4611686018427387904) → Q .normal { tmps := #[.pointer (some ⟨c, 0, none⟩), s1, s2, .pointer (some ⟨Y, 0, none⟩), s4, s5, s6, s7, s8, s9, s10, s11, s12, s13, s14, s15, .pointer (some ⟨Y, 0, none⟩), .int .i64 sq, .pointer (some ⟨Y, 0, none⟩), .int .i64 sq, .int .i64 (sq + 1), .slice (some ⟨X5, 0, none⟩) 3 3, .pointer (some ⟨c, 0, none⟩), .int .i64 (R7 : Int), .pointer (some ⟨X5, R7, none⟩), .int .i64 fv, .pointer (some ⟨Y, 1, none⟩), s27, s28, s29, s30, s31, s32, s33, s34, s35, s36, s37, s38, s39, s40, s41, s42, s43, s44, s45, s46, s47, s48, s49, s50, s51, s52, s53, s54, s55, s56, s57, s58, s59, s60], defers := [] } w') :
 (Code.region rid at6O true).wp Tryz.prog Q { tmps := #[.pointer (some ⟨c, 0, none⟩), s1, s2, .pointer (some ⟨Y, 0, none⟩), s4, s5, s6, s7, s8, s9, s10, s11, s12, s13, s14, s15, s16, s17, s18, s19, s20, s21, s22, s23, s24, s25, s26, s27, s28, s29, s30, s31, s32, s33, s34, s35, s36, s37, s38, s39, s40, s41, s42, s43, s44, s45, s46, s47, s48, s49, s50, s51, s52, s53, s54, s55, s56, s57, s58, s59, s60], defers := [] } w := by
 refine wp_region_inv (ops := at6O) (at6I ⟨W0, W1, c, a, len, cap, p, Y, sq, fl, vF, vR, s1, s2, s4, s5, s6, s7, s8, s9, s10, s11, s12, s13, s14, s15, s16, s17, s18, s19, s20, s21, s22, s23, s24, s25, s26, s27, s28, s29, s30, s31, s32, s33, s34, s35, s36, s37, s38, s39, s40, s41, s42, s43, s44, s45, s46, s47, s48, s49, s50, s51, s52, s53, s54, s55, s56, s57, s58, s59, s60⟩) (by kernel_rfl) (by kernel_rfl) (fun l f v hI => ?_) (fun l f v hC hI i h0 o ho h1 => at6_step ⟨W0, W1, c, a, len, cap, p, Y, sq, fl, vF, vR, s1, s2, s4, s5, s6, s7, s8, s9, s10, s11, s12, s13, s14, s15, s16, s17, s18, s19, s20, s21, s22, s23, s24, s25, s26, s27, s28, s29, s30, s31, s32, s33, s34, s35, s36, s37, s38, s39, s40, s41, s42, s43, s44, s45, s46, s47, s48, s49, s50, s51, s52, s53, s54, s55, s56, s57, s58, s59, s60⟩ l f v hC hI i h0 o ho h1) (fun l f v hI hall => ?_) ?_
 · obtain ⟨_, _, _, _, _, _, _, _, _, _, _, _, _, _, _, _, rfl, _⟩ := hI; rfl
 · obtain ⟨b0, b1, b2, b3, b4, b5, b6, b7, b8, b9, b10, b11, X5, R7, fv, pp, rfl, rfl, hS, hp, hg, hc, hu, hr7, hb, hk⟩ := hI
   have hn := allT hall [0, 1, 2, 3, 4, 5, 6, 7, 8, 9, 10, 11] rfl; repeat (obtain ⟨rfl, hn⟩ := hn)
   exact fin X5 R7 fv pp v hS hp hg hc (hr7 rfl) hb hk
 · exact ⟨false, false, false, false, false, false, false, false, false, false, false, false, 0, 0, 0, p, rfl, rfl, hS.drew, Nat.le_add_right _ _, grown_trans hg (grown_drewS _ _), hc, fun h => Bool.noConfusion h, fun h => Bool.noConfusion h, hb.drew, hk⟩
end Go.Proofs.YtcbmgpdpjagaoaaGreat
namespace Go.Proofs.YtcbmgpdpjagaoaaGreat
open Go.RowKit
set_option linter.unusedVariables false
structure Gr2 (W1 W : World) (c : Nat) (v : Value) : Prop where
 os : W.os = W1.os
 tape : W.tape = W1.tape
 output : W.output = W1.output
 size : W1.heap.size ≤ W.heap.size
 block : ∀ k, k < W1.heap.size → k ≠ c → v.ownBlock ≠ some k → W.heap[k]? = W1.heap[k]?
theorem Gr2.c {W1 W W' : World} {c : Nat} {v : Value} (h : Gr2 W1 W c v) (hg : W.grownBy W' (some c)) : Gr2 W1 W' c v :=
 ⟨hg.os.trans h.os, hg.tape.trans h.tape, hg.output.trans h.output, Nat.le_trans h.size hg.size, fun k hk h1 h2 => (hg.block k (Nat.lt_of_lt_of_le hk h.size) (fun e => h1 (Option.some.inj e))).trans (h.block k hk h1 h2)⟩
theorem Gr2.v {W1 W W' : World} {c : Nat} {v : Value} (h : Gr2 W1 W c v) (hg : W.grownBy W' v.ownBlock) : Gr2 W1 W' c v :=
 ⟨hg.os.trans h.os, hg.tape.trans h.tape, hg.output.trans h.output, Nat.le_trans h.size hg.size, fun k hk h1 h2 => (hg.block k (Nat.lt_of_lt_of_le hk h.size) (fun e => h2 e.symm)).trans (h.block k hk h1 h2)⟩
theorem Gr2.set {W1 W : World} {c b : Nat} {v : Value} (h : Gr2 W1 W c v) (hb : W1.heap.size ≤ b) (k : Nat) (x : Value) : Gr2 W1 (W.setCell ⟨b, k, none⟩ x) c v := by
 have hg := grown_setCellF W b k x; exact ⟨hg.os.trans h.os, hg.tape.trans h.tape, hg.output.trans h.output, Nat.le_trans h.size hg.size, fun j hj h1 h2 => (hg.block j (Nat.lt_of_lt_of_le hj h.size) (fun e => by have := Option.some.inj e; omega)).trans (h.block j hj h1 h2)⟩
theorem Gr2.al {W1 W : World} {c : Nat} {v : Value} (h : Gr2 W1 W c v) (o : Obj) : Gr2 W1 (W.alloc o) c v := h.c (World.grownBy_alloc W o (some c))
theorem step_append_en8 {P : Program} (base : Nat) (w : World) {ops : Array Oper} {op : Oper} {a : Act} {K : Act → World → Prop} {Q : Exit → Act → World → Prop} {E : Prop} (hgd : op.guard = none) (s x : Operand) (t : TypeId)
 (ho : op.op = .call { callee := .builtin .append, args := #[s, x], argTypes := #[t, t] })
 (ht : P.underlying t = some (.slice 46)) (hinfo : (P.info? 46).map (fun i => (i.zero, i.size, i.bytes)) = some (some (.agg #[.string ⟨#[]⟩, .int .i64 0, .bool false, .string ⟨#[]⟩]), 4, 48))
 (v : Value) (L : List En) (n : Nat) (e : En) (hn : L.length = n) (hs : a.eval s = v) (hown : OwnEn w base v L) (hsz : base ≤ w.heap.size)
 (b : Nat) (hbox : RA w b 46 #[.string e.ky, .int .i64 e.sq, .bool e.gn, .string e.tx]) (hx : a.eval x = .slice (some ⟨b, 0, none⟩) 1 1) (hlen : n + 1 ≤ 1048576)
 (h : ∀ g cap w', OwnEn w' base (.slice (some ⟨g, 0, none⟩) (n + 1) cap) (L ++ [e]) → w.grownBy w' v.ownBlock → K (a.put op.dst (.slice (some ⟨g, 0, none⟩) (n + 1) cap)) w') :
 if Region.wanted op (yielded ops a.tmps) = true then Oper.wp P op a w K Q else E := by
 subst hn; obtain ⟨i0, hi, hz0, hz1, hz2⟩ := info_parts hinfo; refine step_append_lies _ hgd s x t ho base 46 i0 _ 4 48 ht hi hz0 hz1 hz2 rfl (by decide) v L.length (enL L) hs hown ⟨b, 0, none⟩ 1 1 (enL [e]) hx rfl ?_ ?_ (by decide) ?_ ?_ hsz w.heap.size rfl ?_
 · intro j u hj
   have hadd : (⟨b, 0, none⟩ : Addr).add j = ⟨b, j, none⟩ := by unfold Addr.add; split <;> simp_all
   rw [hadd, hbox.cell]
   match j, hj with
   | 0, hj => exact hj
   | 1, hj => exact hj
   | 2, hj => exact hj
   | 3, hj => exact hj
 · intro u hu
   simp [enL] at hu
   rcases hu with rfl | rfl | rfl | rfl <;> rfl
 · unfold maxLen; omega
 · omega
 · intro g cap w' h1 h2 _ _
   exact h g cap w' (by unfold OwnEn; rw [enL_app, List.length_append]; exact h1) h2
def at8o0 : Oper := ⟨some 29, .fieldAddr 28 (.tmp 3) 2, 0, "l08_runs.go:275", #[], none⟩
def at8o1 : Oper := ⟨some 30, .fieldAddr 25 (.tmp 29) 0, 0, "l08_runs.go:275", #[⟨0, .data⟩], none⟩
def at8o2 : Oper := ⟨some 31, .load 23 (.tmp 30), 23, "l08_runs.go:275", #[⟨1, .data⟩], none⟩
def at8o3 : Oper := ⟨some 32, .move (.tmp 0), 50, "l08_runs.go:275", #[], none⟩
def at8o4 : Oper := ⟨some 33, .call { callee := .value (.func 21), args := #[.tmp 32, .const (.int .i64 4)], argTypes := #[50, 2] }, 2, "l08_runs.go:275", #[⟨3, .data⟩], none⟩
def at8o5 : Oper := ⟨some 34, .build 46 #[(0, .const (.string { data := #[98] })), (1, .tmp 33)], 46, "l08_runs.go:275", #[⟨4, .data⟩], none⟩
def at8o6 : Oper := ⟨some 35, .buildSlice 23 1 #[(0, .tmp 34)], 23, "l08_runs.go:275", #[⟨5, .data⟩], none⟩
def at8o7 : Oper := ⟨some 36, .call { callee := .builtin Builtin.append, args := #[.tmp 31, .tmp 35], argTypes := #[23, 23] }, 23, "l08_runs.go:275", #[⟨2, .data⟩, ⟨6, .data⟩, ⟨4, .chain⟩], none⟩
def at8o8 : Oper := ⟨some 37, .fieldAddr 28 (.tmp 3) 2, 0, "l08_runs.go:275", #[⟨0, .phase⟩, ⟨1, .phase⟩, ⟨2, .phase⟩, ⟨3, .phase⟩, ⟨4, .phase⟩, ⟨5, .phase⟩, ⟨6, .phase⟩, ⟨7, .phase⟩], none⟩
def at8o9 : Oper := ⟨some 38, .fieldAddr 25 (.tmp 37) 0, 0, "l08_runs.go:275", #[⟨8, .data⟩, ⟨0, .phase⟩, ⟨1, .phase⟩, ⟨2, .phase⟩, ⟨3, .phase⟩, ⟨4, .phase⟩, ⟨5, .phase⟩, ⟨6, .phase⟩, ⟨7, .phase⟩], none⟩
def at8o10 : Oper := ⟨none, .store 23 (.tmp 38) (.tmp 36), 0, "l08_runs.go:275", #[⟨9, .data⟩, ⟨7, .data⟩, ⟨7, .chain⟩, ⟨0, .phase⟩, ⟨1, .phase⟩, ⟨2, .phase⟩, ⟨3, .phase⟩, ⟨4, .phase⟩, ⟨5, .phase⟩, ⟨6, .phase⟩, ⟨7, .phase⟩], none⟩
def at8O : Array Oper := #[at8o0, at8o1, at8o2, at8o3, at8o4, at8o5, at8o6, at8o7, at8o8, at8o9, at8o10]
structure at8P where
 (W0 W1 : World)
 (c : Nat)
 (a : Option Addr)
 (len cap p Y B : Nat)
 (sq fl : Int)
 (aF : Option Addr)
 (nF cF : Nat)
 (F : List En)
 (vR : Value)
 (s1 s2 s4 s5 s6 s7 s8 s9 s10 s11 s12 s13 s14 s15 s16 s17 s18 s19 s20 s21 s22 s23 s24 s25 s26 s27 s28 s29 s30 s31 s32 s33 s34 s35 s36 s37 s38 s39 s40 s41 s42 s43 s44 s45 s46 s47 s48 s49 s50 s51 s52 s53 s54 s55 s56 s57 s58 s59 s60 : Value)
def at8T (P : at8P) (R4 : Nat) (X6 : Nat) (G : Nat) (CP : Nat) (pp : Nat) (b0 b1 b2 b3 b4 b5 b6 b7 b8 b9 b10 : Bool) : Array Value := #[.pointer (some ⟨P.c, 0, none⟩), P.s1, P.s2, .pointer (some ⟨P.Y, 0, none⟩), P.s4, P.s5, P.s6, P.s7, P.s8, P.s9, P.s10, P.s11, P.s12, P.s13, P.s14, P.s15, P.s16, P.s17, P.s18, P.s19, P.s20, P.s21, P.s22, P.s23, P.s24, P.s25, P.s26, P.s27, P.s28, sel b0 (.pointer (some ⟨P.Y, 2, none⟩)) (P.s29), sel b1 (.pointer (some ⟨P.Y, 2, none⟩)) (P.s30), sel b2 (.slice P.aF P.nF P.cF) (P.s31), sel b3 (.pointer (some ⟨P.c, 0, none⟩)) (P.s32), sel b4 (.int .i64 (R4 : Int)) (P.s33), sel b5 (.agg #[.string ⟨#[98]⟩, .int .i64 (R4 : Int), .bool false, .string ⟨#[]⟩]) (P.s34), sel b6 (.slice (some ⟨X6, 0, none⟩) 1 1) (P.s35), sel b7 (.slice (some ⟨G, 0, none⟩) (P.nF + 1) CP) (P.s36), sel b8 (.pointer (some ⟨P.Y, 2, none⟩)) (P.s37), sel b9 (.pointer (some ⟨P.Y, 2, none⟩)) (P.s38), P.s39, P.s40, P.s41, P.s42, P.s43, P.s44, P.s45, P.s46, P.s47, P.s48, P.s49, P.s50, P.s51, P.s52, P.s53, P.s54, P.s55, P.s56, P.s57, P.s58, P.s59, P.s60]
def at8F (P : at8P) (R4 : Nat) (X6 : Nat) (G : Nat) (CP : Nat) (pp : Nat) (b0 b1 b2 b3 b4 b5 b6 b7 b8 b9 b10 : Bool) (w : World) : Prop := (Src P.W0 w P.c P.a P.len P.cap pp) ∧ (pp ≤ P.p + 40 * (b4.toNat)) ∧ (Gr2 P.W1 w P.c (.slice P.aF P.nF P.cF)) ∧ (P.c < P.B ∧ P.B ≤ P.W1.heap.size ∧ P.W1.heap.size ≤ P.Y) ∧ (b6 = true → b7 = false → RA w X6 46 #[.string ⟨#[98]⟩, .int .i64 (R4 : Int), .bool false, .string ⟨#[]⟩]) ∧ (b4 = true → R4 < 4) ∧ (b7 = false → OwnEn w P.B (.slice P.aF P.nF P.cF) P.F) ∧ (b7 = true → OwnEn w P.B (.slice (some ⟨G, 0, none⟩) (P.nF + 1) CP) (P.F ++ [⟨⟨#[98]⟩, (R4 : Int), false, ⟨#[]⟩⟩])) ∧ (RA w P.Y 28 (cond b10 #[.int .i64 P.sq, .int .i64 P.fl, .slice (some ⟨G, 0, none⟩) (P.nF + 1) CP, P.vR] #[.int .i64 P.sq, .int .i64 P.fl, .slice P.aF P.nF P.cF, P.vR])) ∧ (P.p ≤ 900000 ∧ P.nF ≤ 2000 ∧ P.F.length = P.nF)
def at8I (P : at8P) (l : Array Bool) (f : Act) (w : World) : Prop :=
 ∃ (b0 b1 b2 b3 b4 b5 b6 b7 b8 b9 b10 : Bool) (R4 : Nat) (X6 : Nat) (G : Nat) (CP : Nat) (pp : Nat), l = #[b0, b1, b2, b3, b4, b5, b6, b7, b8, b9, b10] ∧ f = { tmps := at8T P R4 X6 G CP pp b0 b1 b2 b3 b4 b5 b6 b7 b8 b9 b10, defers := [] } ∧ at8F P R4 X6 G CP pp b0 b1 b2 b3 b4 b5 b6 b7 b8 b9 b10 w
theorem at8M {P : at8P} {b0 b1 b2 b3 b4 b5 b6 b7 b8 b9 b10 : Bool} (R4 : Nat) (X6 : Nat) (G : Nat) (CP : Nat) (pp : Nat) {l : Array Bool} {f : Act} {w : World} (hl : l = #[b0, b1, b2, b3, b4, b5, b6, b7, b8, b9, b10]) (hf : f = { tmps := at8T P R4 X6 G CP pp b0 b1 b2 b3 b4 b5 b6 b7 b8 b9 b10, defers := [] }) (h : at8F P R4 X6 G CP pp b0 b1 b2 b3 b4 b5 b6 b7 b8 b9 b10 w) : at8I P l f w := ⟨b0, b1, b2, b3, b4, b5, b6, b7, b8, b9, b10, R4, X6, G, CP, pp, hl, hf, h⟩
set_option maxRecDepth 20000 in
set_option maxHeartbeats 20000000 in
theorem at8_step {Q : Exit → Act → World → Prop} (P : at8P) (l : Array Bool) (f : Act) (w : World) (hC : Closed at8O l) (hI : at8I P l f w) (i : Nat) (h0 : l.getD i true = false) (o : Oper) (ho : at8O[i]? = some o) (h1 : ∀ e ∈ o.after, Region.binds .any e = true → l.getD e.on false = true) : wpOp Tryz.prog at8O Q i (at8I P (l.setIfInBounds i true)) f w := by
 obtain ⟨b0, b1, b2, b3, b4, b5, b6, b7, b8, b9, b10, R4, X6, G, CP, pp, rfl, rfl, hF⟩ := hI
 have hi : i < 11 := by
  rcases Nat.lt_or_ge i 11 with h | h
  · exact h
  · rw [show at8O[i]? = none from Array.getElem?_eq_none h] at ho; cases ho
 rcases (by omega : i = 0 ∨ i = 1 ∨ i = 2 ∨ i = 3 ∨ i = 4 ∨ i = 5 ∨ i = 6 ∨ i = 7 ∨ i = 8 ∨ i = 9 ∨ i = 10) with rfl | rfl | rfl | rfl | rfl | rfl | rfl | rfl | rfl | rfl | rfl
 · obtain rfl : at8o0 = o := Option.some.inj ho
   obtain rfl : b0 = false := h0
   have hn := wN9 hC (i := 0) rfl [(1, 0), (2, 1), (7, 2), (8, 0), (9, 0), (10, 0)] [] nk rfl; repeat (obtain ⟨rfl, hn⟩ := hn)
   obtain ⟨hS, hp, hg, hc, hu, hr4, ho1, ho2, hb, hk⟩ := hF; refine wpOp_step (o := at8o0) rfl (fun K hK => ?_); replace hK := hid hK; simp only [at8o0, at8T, sel_f]
   go_simp
   exact hK.out _ _ (at8M R4 X6 G CP pp rfl rfl ⟨hS, hp, hg, hc, hu, hr4, ho1, ho2, hb, hk⟩)
 · obtain rfl : at8o1 = o := Option.some.inj ho
   obtain rfl : b1 = false := h0
   have hn := wP9 (o := at8o1) hC h1 [(0, none)] [] nk rfl; repeat (obtain ⟨rfl, hn⟩ := hn)
   have hn := wN9 hC (i := 1) rfl [(2, 1), (7, 2), (8, 1), (9, 1), (10, 1)] [] nk rfl; repeat (obtain ⟨rfl, hn⟩ := hn)
   obtain ⟨hS, hp, hg, hc, hu, hr4, ho1, ho2, hb, hk⟩ := hF; refine wpOp_step (o := at8o1) rfl (fun K hK => ?_); replace hK := hid hK; simp only [at8o1, at8T, sel_t, sel_f]
   go_simp
   exact hK.out _ _ (at8M R4 X6 G CP pp rfl rfl ⟨hS, hp, hg, hc, hu, hr4, ho1, ho2, hb, hk⟩)
 · obtain rfl : at8o2 = o := Option.some.inj ho
   obtain rfl : b2 = false := h0
   have hn := wP9 (o := at8o2) hC h1 [(1, none), (0, some 1)] [] nk rfl; repeat (obtain ⟨rfl, hn⟩ := hn)
   have hn := wN9 hC (i := 2) rfl [(7, 2), (8, 2), (9, 2), (10, 2)] [] nk rfl; repeat (obtain ⟨rfl, hn⟩ := hn)
   obtain ⟨hS, hp, hg, hc, hu, hr4, ho1, ho2, hb, hk⟩ := hF; have RB : RA w P.Y 28 #[.int .i64 P.sq, .int .i64 P.fl, .slice P.aF P.nF P.cF, P.vR] := hb; have q2 := RB.cell 2; refine wpOp_step (o := at8o2) rfl (fun K hK => ?_); replace hK := hid hK; simp only [at8o2, at8T, sel_t, sel_f]
   go_simp
   exact hK.out _ _ (at8M R4 X6 G CP pp rfl rfl ⟨hS, hp, hg, hc, hu, hr4, ho1, ho2, hb, hk⟩)
 · obtain rfl : at8o3 = o := Option.some.inj ho
   obtain rfl : b3 = false := h0
   have hn := wN9 hC (i := 3) rfl [(4, 3), (5, 4), (6, 5), (7, 4), (8, 3), (9, 3), (10, 3)] [] nk rfl; repeat (obtain ⟨rfl, hn⟩ := hn)
   obtain ⟨hS, hp, hg, hc, hu, hr4, ho1, ho2, hb, hk⟩ := hF; simp only [Bool.toNat_false] at hp; refine wpOp_step (o := at8o3) rfl (fun K hK => ?_); replace hK := hid hK; simp only [at8o3, at8T, sel_f]
   go_simp
   exact hK.out _ _ (at8M R4 X6 G CP pp rfl rfl ⟨hS, hp, hg, hc, hu, hr4, ho1, ho2, hb, hk⟩)
 · obtain rfl : at8o4 = o := Option.some.inj ho
   obtain rfl : b4 = false := h0
   have hn := wP9 (o := at8o4) hC h1 [(3, none)] [] nk rfl; repeat (obtain ⟨rfl, hn⟩ := hn)
   have hn := wN9 hC (i := 4) rfl [(5, 4), (6, 5), (7, 4), (8, 4), (9, 4), (10, 4)] [] nk rfl; repeat (obtain ⟨rfl, hn⟩ := hn)
   obtain ⟨hS, hp, hg, hc, hu, hr4, ho1, ho2, hb, hk⟩ := hF; simp only [Bool.toNat_false] at hp; have hk1 := hk.1; refine wpOp_step (o := at8o4) rfl (fun K hK => ?_); replace hK := hid hK; simp only [at8o4, at8T, sel_t, sel_f]
   go_simp
   refine (n_all P.W0 _ P.c P.a P.len P.cap pp 4 hS (by omega) (by omega) (by omega)).mono ?_
   rintro e w2 ⟨⟨r, rfl, h20, h21⟩, hs2, hg2⟩
   obtain ⟨R, rfl⟩ := Int.eq_ofNat_of_zero_le h20; dsimp only; exact hK.out _ _ (at8M R X6 G CP (pp + 1) rfl rfl ⟨hs2, by show pp + 1 ≤ P.p + 40 * (1); omega, hg.c hg2, hc, fun h => Bool.noConfusion h, fun _ => by omega, fun h => (ho1 h).keep fun g cs e r => (hg2.block g r.lt (fun e2 => by have := (ho1 h).row e; have := hc.1; cases e2; omega)).trans r, fun h => Bool.noConfusion h, rowF hb hg2 (by have := hc.1; have := hc.2; omega), hk⟩)
 · obtain rfl : at8o5 = o := Option.some.inj ho
   obtain rfl : b5 = false := h0
   have hn := wP9 (o := at8o5) hC h1 [(4, none), (3, some 4)] [] nk rfl; repeat (obtain ⟨rfl, hn⟩ := hn)
   have hn := wN9 hC (i := 5) rfl [(6, 5), (7, 6), (8, 5), (9, 5), (10, 5)] [] nk rfl; repeat (obtain ⟨rfl, hn⟩ := hn)
   obtain ⟨hS, hp, hg, hc, hu, hr4, ho1, ho2, hb, hk⟩ := hF; simp only [Bool.toNat_true] at hp; refine wpOp_step (o := at8o5) rfl (fun K hK => ?_); replace hK := hid hK; simp only [at8o5, at8T, sel_t, sel_f]
   go_simp
   exact hK.out _ _ (at8M R4 X6 G CP pp rfl rfl ⟨hS, hp, hg, hc, hu, hr4, ho1, ho2, hb, hk⟩)
 · obtain rfl : at8o6 = o := Option.some.inj ho
   obtain rfl : b6 = false := h0
   have hn := wP9 (o := at8o6) hC h1 [(5, none), (4, some 5), (3, some 4)] [] nk rfl; repeat (obtain ⟨rfl, hn⟩ := hn)
   have hn := wN9 hC (i := 6) rfl [(7, 6), (8, 6), (9, 6), (10, 6)] [] nk rfl; repeat (obtain ⟨rfl, hn⟩ := hn)
   obtain ⟨hS, hp, hg, hc, hu, hr4, ho1, ho2, hb, hk⟩ := hF; simp only [Bool.toNat_true] at hp; refine wpOp_step (o := at8o6) rfl (fun K hK => ?_); replace hK := hid hK; simp only [at8o6, at8T, sel_t, sel_f]
   go_simp
   exact hK.out _ _ (at8M R4 w.heap.size G CP pp rfl rfl ⟨hS.alloc _, hp, hg.al _, hc, fun _ _ => RA.new w _ _, hr4, fun h => (ho1 h).keep fun g cs _ r => r.alloc _, fun h => Bool.noConfusion h, hb.alloc _, hk⟩)
 · obtain rfl : at8o7 = o := Option.some.inj ho
   obtain rfl : b7 = false := h0
   have hn := wP9 (o := at8o7) hC h1 [(6, none), (4, none), (2, none), (5, some 6), (3, some 4), (1, some 2), (0, some 1)] [] nk rfl; repeat (obtain ⟨rfl, hn⟩ := hn)
   have hn := wN9 hC (i := 7) rfl [(8, 7), (9, 7), (10, 7)] [] nk rfl; repeat (obtain ⟨rfl, hn⟩ := hn)
   obtain ⟨hS, hp, hg, hc, hu, hr4, ho1, ho2, hb, hk⟩ := hF; simp only [Bool.toNat_true] at hp; have hk2 := hk.2.1; have hc2 := hc.2.1; refine wpOp_step (o := at8o7) rfl (fun K hK => ?_); replace hK := hid hK; have hO := ho1 rfl; have hs9 := hg.size; refine step_append_en8 P.B _ (by rfl) _ _ 23 (by rfl) Tryz.underlying23 Tryz.infoEn (.slice P.aF P.nF P.cF) P.F P.nF ⟨⟨#[98]⟩, (R4 : Int), false, ⟨#[]⟩⟩ hk.2.2 (by rfl) hO (by omega) X6 (hu rfl rfl) (by rfl) (by omega) ?_; intro g3 c3 w3 hO3 hg3; have ne3 : ∀ k, k < P.B → some k ≠ (Value.slice P.aF P.nF P.cF).ownBlock := fun k hk e => by have := (hO.row e.symm).1; omega
   exact hK.out _ _ (at8M R4 X6 g3 c3 pp rfl rfl ⟨hS.far hg3 (ne3 P.c hc.1) (fun g e => by have := (hO.row e).1; have := hS.2.2.2.2; have := hc.1; omega), hp, hg.v hg3, hc, fun h e => Bool.noConfusion e, hr4, fun h => Bool.noConfusion h, fun _ => hO3, (hg3.block P.Y hb.lt (fun e => by obtain ⟨_, _, cs, r⟩ := hO.row e.symm; exact row_ne hb r (by decide) rfl)).trans hb, hk⟩)
 · obtain rfl : at8o8 = o := Option.some.inj ho
   obtain rfl : b8 = false := h0
   have hn := wP9 (o := at8o8) hC h1 [(7, none), (6, none), (5, none), (4, none), (3, none), (2, none), (1, none), (0, none)] [] nk rfl; repeat (obtain ⟨rfl, hn⟩ := hn)
   have hn := wN9 hC (i := 8) rfl [(9, 8), (10, 9)] [] nk rfl; repeat (obtain ⟨rfl, hn⟩ := hn)
   obtain ⟨hS, hp, hg, hc, hu, hr4, ho1, ho2, hb, hk⟩ := hF; simp only [Bool.toNat_true] at hp; refine wpOp_step (o := at8o8) rfl (fun K hK => ?_); replace hK := hid hK; simp only [at8o8, at8T, sel_t, sel_f]
   go_simp
   exact hK.out _ _ (at8M R4 X6 G CP pp rfl rfl ⟨hS, hp, hg, hc, hu, hr4, ho1, ho2, hb, hk⟩)
 · obtain rfl : at8o9 = o := Option.some.inj ho
   obtain rfl : b9 = false := h0
   have hn := wP9 (o := at8o9) hC h1 [(8, none), (7, none), (6, none), (5, none), (4, none), (3, none), (2, none), (1, none), (0, none)] [] nk rfl; repeat (obtain ⟨rfl, hn⟩ := hn)
   have hn := wN9 hC (i := 9) rfl [(10, 9)] [] nk rfl; repeat (obtain ⟨rfl, hn⟩ := hn)
   obtain ⟨hS, hp, hg, hc, hu, hr4, ho1, ho2, hb, hk⟩ := hF; simp only [Bool.toNat_true] at hp; refine wpOp_step (o := at8o9) rfl (fun K hK => ?_); replace hK := hid hK; simp only [at8o9, at8T, sel_t, sel_f]
   go_simp
   exact hK.out _ _ (at8M R4 X6 G CP pp rfl rfl ⟨hS, hp, hg, hc, hu, hr4, ho1, ho2, hb, hk⟩)
 · obtain rfl : at8o10 = o := Option.some.inj ho
   obtain rfl : b10 = false := h0
   have hn := wP9 (o := at8o10) hC h1 [(9, none), (7, none), (6, none), (5, none), (4, none), (3, none), (2, none), (1, none), (0, none), (8, some 9)] [] nk rfl; repeat (obtain ⟨rfl, hn⟩ := hn)
   obtain ⟨hS, hp, hg, hc, hu, hr4, ho1, ho2, hb, hk⟩ := hF; simp only [Bool.toNat_true] at hp; have RB : RA w P.Y 28 #[.int .i64 P.sq, .int .i64 P.fl, .slice P.aF P.nF P.cF, P.vR] := hb; have hcx : P.c < P.Y := by have := hc.1; have := hc.2.1; have := hc.2.2; omega
   have q1 := RB.cell 2; have f1 := RB.free 2; refine wpOp_step (o := at8o10) rfl (fun K hK => ?_); replace hK := hid hK; simp only [at8o10, at8T, sel_t]
   go_simp
   exact hK.out _ _ (at8M R4 X6 G CP pp rfl rfl ⟨hS.set hcx 2 _, hp, hg.set hc.2.2 2 _, hc, fun h e => Bool.noConfusion e, hr4, fun h => Bool.noConfusion h, fun h => (ho2 h).keep fun g cs _ r => r.other _ _ (row_ne r RB (by decide)), RB.set 2 _, hk⟩)
set_option maxRecDepth 20000 in
set_option maxHeartbeats 4000000 in
theorem at8_wp {Q : Exit → Act → World → Prop} {rid : Nat} (W0 W1 : World) (c : Nat) (a : Option Addr) (len cap p Y B : Nat) (sq fl : Int) (aF : Option Addr) (nF cF : Nat) (F : List En) (vR : Value) {s1 s2 s4 s5 s6 s7 s8 s9 s10 s11 s12 s13 s14 s15 s16 s17 s18 s19 s20 s21 s22 s23 s24 s25 s26 s27 s28 s29 s30 s31 s32 s33 s34 s35 s36 s37 s38 s39 s40 s41 s42 s43 s44 s45 s46 s47 s48 s49 s50 s51 s52 s53 s54 s55 s56 s57 s58 s59 s60 : Value} (w : World) (hS : Src W0 w c a len cap p) (hg : Gr2 W1 w c (.slice aF nF cF)) (hc : c < B ∧ B ≤ W1.heap.size ∧ W1.heap.size ≤ Y) (ho1 : OwnEn w B (.slice aF nF cF) F) (hb : RA w Y 28 #[.int .i64 sq, .int .i64 fl, .slice aF nF cF, vR]) (hk : p ≤ 900000 ∧ nF ≤ 2000 ∧ F.length = nF)
 (fin : ∀ (R4 : Nat) (X6 : Nat) (G : Nat) (CP : Nat) (pp : Nat) (w' : World), (Src W0 w' c a len cap pp) → (pp ≤ p + 40 * (1)) → (Gr2 W1 w' c (.slice aF nF cF)) → (c < B ∧ B ≤ W1.heap.size ∧ W1.heap.size ≤ Y) → (R4 < 4) → (OwnEn w' B (.slice (some ⟨G, 0, none⟩) (nF + 1) CP) (F ++ [⟨⟨#[98]⟩, (R4 : Int), false, ⟨#[]⟩⟩])) → (RA w' Y 28 (cond true #[.int .i64 sq, .int .i64 fl, .slice (some ⟨G, 0, none⟩) (nF + 1) CP, vR] #[.int .i64 sq, .int .i64 fl, .slice aF nF cF, vR])) → (p ≤ 900000 ∧ nF ≤ 2000 ∧ F.length = nF) → Q .normal { tmps := #[.pointer (some ⟨c, 0, none⟩), s1, s2, .pointer (some ⟨Y, 0, none⟩), s4, s5, s6, s7, s8, s9, s10, s11, s12, s13, s14, s15, s16, s17, s18, s19, s20, s21, s22, s23, s24, s25, s26, s27, s28, .pointer (some ⟨Y, 2, none⟩), .pointer (some ⟨Y, 2, none⟩), .slice aF nF cF, .pointer (some ⟨c, 0, none⟩), .int .i64 (R4 : Int), .agg #[.string ⟨#[98]⟩, .int .i64 (R4 : Int), .bool false, .string ⟨#[]⟩], .slice (some ⟨X6, 0, none⟩) 1 1, .slice (some ⟨G, 0, none⟩) (nF + 1) CP, .pointer (some ⟨Y, 2, none⟩), .pointer (some ⟨Y, 2, none⟩), s39, s40, s41, s42, s43, s44, s45, s46, s47, s48, s49, s50, s51, s52, s53, s54, s55, s56, s57, s58, s59, s60], defers := [] } w') :
 (Code.region rid at8O true).wp Tryz.prog Q { tmps := #[.pointer (some ⟨c, 0, none⟩), s1, s2, .pointer (some ⟨Y, 0, none⟩), s4, s5, s6, s7, s8, s9, s10, s11, s12, s13, s14, s15, s16, s17, s18, s19, s20, s21, s22, s23, s24, s25, s26, s27, s28, s29, s30, s31, s32, s33, s34, s35, s36, s37, s38, s39, s40, s41, s42, s43, s44, s45, s46, s47, s48, s49, s50, s51, s52, s53, s54, s55, s56, s57, s58, s59, s60], defers := [] } w := by
 refine wp_region_inv (ops := at8O) (at8I ⟨W0, W1, c, a, len, cap, p, Y, B, sq, fl, aF, nF, cF, F, vR, s1, s2, s4, s5, s6, s7, s8, s9, s10, s11, s12, s13, s14, s15, s16, s17, s18, s19, s20, s21, s22, s23, s24, s25, s26, s27, s28, s29, s30, s31, s32, s33, s34, s35, s36, s37, s38, s39, s40, s41, s42, s43, s44, s45, s46, s47, s48, s49, s50, s51, s52, s53, s54, s55, s56, s57, s58, s59, s60⟩) (by kernel_rfl) (by kernel_rfl) (fun l f v hI => ?_) (fun l f v hC hI i h0 o ho h1 => at8_step ⟨W0, W1, c, a, len, cap, p, Y, B, sq, fl, aF, nF, cF, F, vR, s1, s2, s4, s5, s6, s7, s8, s9, s10, s11, s12, s13, s14, s15, s16, s17, s18, s19, s20, s21, s22, s23, s24, s25, s26, s27, s28, s29, s30, s31, s32, s33, s34, s35, s36, s37, s38, s39, s40, s41, s42, s43, s44, s45, s46, s47, s48, s49, s50, s51, s52, s53, s54, s55, s56, s57, s58, s59, s60⟩ l f v hC hI i h0 o ho h1) (fun l f v hI hall => ?_) ?_
 · obtain ⟨_, _, _, _, _, _, _, _, _, _, _, _, _, _, _, _, rfl, _⟩ := hI; rfl
 · obtain ⟨b0, b1, b2, b3, b4, b5, b6, b7, b8, b9, b10, R4, X6, G, CP, pp, rfl, rfl, hS, hp, hg, hc, hu, hr4, ho1, ho2, hb, hk⟩ := hI
   have hn := allT hall [0, 1, 2, 3, 4, 5, 6, 7, 8, 9, 10] rfl; repeat (obtain ⟨rfl, hn⟩ := hn)
   exact fin R4 X6 G CP pp v hS hp hg hc (hr4 rfl) (ho2 rfl) hb hk
 · exact ⟨false, false, false, false, false, false, false, false, false, false, false, 0, 0, 0, 0, p, rfl, rfl, hS.drew, Nat.le_add_right _ _, hg.c (grown_drewS _ _), hc, fun h => Bool.noConfusion h, fun h => Bool.noConfusion h, fun _ => ho1.keep fun g cs _ r => r.drew, fun h => Bool.noConfusion h, hb.drew, hk⟩
end Go.Proofs.YtcbmgpdpjagaoaaGreat
namespace Go.Proofs.YtcbmgpdpjagaoaaGreat
open Go.RowKit
set_option linter.unusedVariables false
structure TbW (W : World) (base : Nat) (vF : Value) (F : List En) (vR : Value) (Q : List (Value × List En)) : Prop where
 fr : OwnEn W base vF F
 rs : W.ownsRow base 25 1 vR Q.length (Q.map Prod.fst)
 ru : ∀ p ∈ Q, OwnEn W base p.1 p.2
 nF : F.length ≤ 1001
 nQ : Q.length ≤ 21
 tot : (Q.map fun p => p.2.length).sum ≤ 3000
 eF : ∀ e ∈ F, e.ky.size ≤ 1048576 ∧ e.tx.size ≤ 1048576
 eQ : ∀ p ∈ Q, ∀ e ∈ p.2, e.ky.size ≤ 1048576 ∧ e.tx.size ≤ 1048576
structure TbX (W : World) (base : Nat) (vF : Value) (F : List En) (vR : Value) (Q : List (Value × List En)) : Prop extends TbW W base vF F vR Q where
 nF1 : F.length ≤ 1000
 nQ1 : Q.length ≤ 20
 tot1 : (Q.map fun p => p.2.length).sum ≤ 1000
theorem TbW.far {w w' : World} {base base' c : Nat} {vF : Value} {F : List En} {vR : Value} {Q : List (Value × List En)} (h : TbW w base vF F vR Q) (hg : w.grownBy w' (some c)) (hc : c < base') (hb : base' ≤ base) : TbW w' base' vF F vR Q := by
 have kp : ∀ {g ty cs}, RA w g ty cs → base ≤ g → RA w' g ty cs := fun {g ty cs} r hn => (hg.block g r.lt (fun e => by have := Option.some.inj e; omega)).trans r; exact ⟨OwnEn.baseUp (h.fr.keep fun g cs e r => kp r (h.fr.row e).1) hb, or_baseUp (or_keep h.rs fun g cs e r => kp r (or_row h.rs e).1) hb, fun p hp => OwnEn.baseUp ((h.ru p hp).keep fun g cs e r => kp r ((h.ru p hp).row e).1) hb, h.nF, h.nQ, h.tot, h.eF, h.eQ⟩
theorem TbX.far {w w' : World} {base base' c : Nat} {vF : Value} {F : List En} {vR : Value} {Q : List (Value × List En)} (h : TbX w base vF F vR Q) (hg : w.grownBy w' (some c)) (hc : c < base') (hb : base' ≤ base) : TbW w' base' vF F vR Q := h.toTbW.far hg hc hb
theorem flat_len : ∀ (Q : List (Value × List En)), (Q.map fun p => p.2.length).sum = (Q.map Prod.snd).flatten.length
 | [] => rfl
 | p :: Q => by rw [List.map_cons, List.sum_cons, flat_len Q, List.map_cons, List.flatten_cons, List.length_append]
theorem TbV.x {W : World} {base : Nat} {t : Tt} {vF vR : Value} {Q : List (Value × List En)} (h : TbV W base t vF vR Q) (k : TOk t) : TbX W base vF t.fr vR Q := by
 have hl : t.all.length = t.fr.length + t.rs.flatten.length := by unfold Tt.all; rw [List.length_append]
 have hc := k.cnt; have ht : (Q.map fun p => p.2.length).sum ≤ 1000 := by rw [flat_len, h.eq]; omega
 have hq : Q.length ≤ 20 := by have := k.m; rw [← h.eq, List.length_map] at this; exact this
 refine ⟨⟨h.fr, h.rs, h.ru, by omega, by omega, by omega, fun e he => ?_, fun p hp e he => ?_⟩, by omega, hq, ht⟩
 · have := k.fit e (List.mem_append_left _ he); exact ⟨this.1, this.2.1⟩
 · have := k.fit e (List.mem_append_right _ (by rw [← h.eq]; exact List.mem_flatten.2 ⟨p.2, List.mem_map.2 ⟨p, hp, rfl⟩, he⟩)); exact ⟨this.1, this.2.1⟩
theorem OwnEn.gone {w : World} {base g n c : Nat} {x : En} {r : List En} (h : OwnEn w base (.slice (some ⟨g, 0, none⟩) n c) (x :: r)) :
 OwnEn (w.setCell ⟨g, 2, none⟩ (.bool true)) base (.slice (some ⟨g, 0, none⟩) n c) (⟨x.ky, x.sq, true, x.tx⟩ :: r) ∧ w.cell? ⟨g, 2, none⟩ = some (.bool x.gn) ∧ w.frozen? ⟨g, 2, none⟩ = false := by
 rcases h.2 with ⟨h0, h1⟩ | ⟨g', cap, cur, he, hb, hr, hnc, hm, hsz, htk⟩
 · cases h0
 · cases he
   have R : RA w g 46 cur := hr
   have c2 : cur[2]? = some (.bool x.gn) := by
    have := congrArg (·[2]?) htk; simp only [List.getElem?_take] at this; rw [if_pos (by simp; omega), Array.getElem?_toList] at this; exact this
   refine ⟨⟨by rw [enL_len], .inr ⟨g, c, cur.setIfInBounds 2 (.bool true), rfl, hb, R.set 2 _, hnc, hm, by rw [Array.size_setIfInBounds]; exact hsz, ?_⟩⟩, (R.cell 2).trans c2, R.free 2⟩; have e0 : ((⟨x.ky, x.sq, true, x.tx⟩ : En) :: r).length = (x :: r).length := rfl; rw [e0, Array.toList_setIfInBounds, List.take_set, htk]
   rfl
set_option maxRecDepth 20000 in
set_option maxHeartbeats 16000000 in
theorem anyT_all (W0 w : World) (c : Nat) (a : Option Addr) (len cap p : Nat) (h : Src W0 w c a len cap p) (hp : p ≤ 30000) :
 Calls Tryz.prog 19 #[.pointer (some ⟨c, 0, none⟩)] w fun e w' => (∃ s f vF F vR Q, e = .returned (.agg #[.int .i64 s, .int .i64 f, vF, vR]) ∧ TbW w' w.heap.size vF F vR Q) ∧ (∃ p', Src W0 w' c a len cap p' ∧ p' ≤ p + 21000) ∧ w.grownBy w' (some c) := by
 obtain ⟨W1, hW1⟩ : ∃ W, W = w.alloc (.cells #[.int .i64 0, .int .i64 0, .slice none 0 0, .slice none 0 0] 28) := ⟨_, rfl⟩; have S1 : Src W0 W1 c a len cap p := by rw [hW1]; exact h.alloc _
 have G1 : w.grownBy W1 (some c) := by rw [hW1]; exact World.grownBy_alloc _ _ _
 have R1 : RA W1 w.heap.size 28 #[.int .i64 0, .int .i64 0, .slice none 0 0, .slice none 0 0] := by rw [hW1]; exact RA.new _ _ _
 have CW : Hid (c < w.heap.size) := h.lt; have KT := hid (table_all W0 W1 c a len cap p S1 (by omega)); obtain ⟨B, hB⟩ : ∃ x, x = W1.heap.size := ⟨_, rfl⟩; have BQ1 : Hid (w.heap.size < B) := by rw [hB]; exact R1.lt
 have BQ : Hid (w.heap.size ≤ B) := Nat.le_of_lt BQ1.out; have CB : Hid (c < B) := by show _ < _; have := CW.out; have := BQ1.out; omega
 have H1 : Hid (w.grownBy W1 (some c) ∧ RA W1 w.heap.size 28 #[.int .i64 0, .int .i64 0, .slice none 0 0, .slice none 0 0]) := ⟨G1, R1⟩; rw [← hB] at KT; have HB := hid hB; clear h S1 G1 R1 hB
 go_enter Tryz.func19, Tryz.ntmps19
 go_upto_region 1 with fail
 rw [← hW1]; clear hW1
 go_wp2_with fail
 refine KT.out.mono ?_
 rintro e w2 ⟨⟨t, vF, vR, Q, rfl, hTK, hV2⟩, ⟨p2, hs2, hp2⟩, hg2⟩
 obtain ⟨aF, cF, hvF⟩ := hV2.fr.slice; obtain ⟨nF, hnF⟩ : ∃ x, x = t.fr.length := ⟨_, rfl⟩; rw [← hnF] at hvF
 obtain ⟨aR, nR, cR, hvR⟩ : ∃ a n c, vR = .slice a n c := by obtain ⟨a, c, h⟩ := or_slice hV2.rs; exact ⟨a, _, c, h⟩
 subst hvF hvR; have TK := hid hTK; have V2 := hid hV2; have W2 := hid (hV2.x hTK); have HNF := hid hnF; have G2 := hid (grown_trans H1.out.1 hg2); have XR2 := hid (rowF H1.out.2 hg2 CW.out); have BW2 : Hid (B ≤ w2.heap.size) := by rw [HB.out]; exact hg2.size
 have C2 : Hid (c < w2.heap.size) := hs2.lt; obtain ⟨W3, hW3⟩ : ∃ W, W = w2.alloc (.cells #[.int .i64 t.sq, .int .i64 t.fl, (Value.slice aF nF cF), (Value.slice aR nR cR)] 28) := ⟨_, rfl⟩; have S3 : Src W0 W3 c a len cap p2 := by rw [hW3]; exact hs2.alloc _
 have G23 : w2.grownBy W3 (some c) := by rw [hW3]; exact World.grownBy_alloc _ _ _
 have Y3 : RA W3 w2.heap.size 28 #[.int .i64 t.sq, .int .i64 t.fl, (Value.slice aF nF cF), (Value.slice aR nR cR)] := by rw [hW3]; exact RA.new _ _ _
 have KN := hid (n_all W0 W3 c a len cap p2 14 S3 (by omega) (by omega) (by omega)); have H3 : Hid (w2.grownBy W3 (some c) ∧ RA W3 w2.heap.size 28 #[.int .i64 t.sq, .int .i64 t.fl, (Value.slice aF nF cF), (Value.slice aR nR cR)]) := ⟨G23, Y3⟩; clear hTK hV2 hs2 hg2 KT hnF S3 G23 Y3 H1
 go_upto_region 2 with ((refine wpList_store_row rfl 28 (.tmp 3) (.tmp 5) rfl w2.heap.size #[.int .i64 t.sq, .int .i64 t.fl, (Value.slice aF nF cF), (Value.slice aR nR cR)] rfl rfl _ _ (RA.new w2 _ _) (by kernel_rfl) rfl (by simp [Value.oneCell']) ?_); rw [World.setRow_alloc_new])
 rw [← hW3]; clear hW3
 go_wp2_with fail
 refine KN.out.mono ?_
 rintro e w4 ⟨⟨r, rfl, hr0, hr1⟩, hs4, hg4⟩
 obtain ⟨Y, hY⟩ : ∃ y, y = w2.heap.size := ⟨_, rfl⟩; obtain ⟨p8, hp8⟩ : ∃ x, x = p2 + 1 := ⟨_, rfl⟩; have YR4 : Hid (RA w4 Y 28 #[.int .i64 t.sq, .int .i64 t.fl, (Value.slice aF nF cF), (Value.slice aR nR cR)]) := by rw [hY]; exact rowF H3.out.2 hg4 C2.out
 have G24 := hid (grown_trans H3.out.1 hg4); have G4 := hid (grown_trans G2.out G24.out); have XR4 := hid (rowF XR2.out G24.out CW.out); have XY : Hid (w.heap.size < Y) := by rw [hY]; exact XR2.out.lt
 have S4 : Hid (Src W0 w4 c a len cap p8) := by rw [hp8]; exact hs4
 have HY := hid hY
 have V4 : Hid (TbV w4 B t (Value.slice aF nF cF) (Value.slice aR nR cR) Q) := by
  have kp : ∀ {g ty cs}, RA w2 g ty cs → B ≤ g → RA w4 g ty cs := fun {g ty cs} r hn => (G24.out.block g r.lt (fun e => by have := Option.some.inj e; have := CB.out; omega)).trans r; exact ⟨V2.out.fr.keep fun g cs e r => kp r (V2.out.fr.row e).1, or_keep V2.out.rs fun g cs e r => kp r (or_row V2.out.rs e).1, fun q hq => (V2.out.ru q hq).keep fun g cs e r => kp r ((V2.out.ru q hq).row e).1, V2.out.ap, V2.out.eq⟩
 rw [← hY]; clear hs4 hg4 hY H3 KN
 by_cases k0 : r = 0
 · subst k0
   have yf := YR4.out.free 0; have y0 := YR4.out.cell 0; have q0 := TK.out.q0; have q1 := TK.out.q1; obtain ⟨SQ, hSQ⟩ : ∃ x, x = t.sq := ⟨_, rfl⟩; rw [← hSQ] at y0 q0 q1; obtain ⟨w8, hw8⟩ : ∃ W, W = w4.setCell ⟨Y, 0, none⟩ (.int .i64 (SQ - 1)) := ⟨_, rfl⟩; have YR : Hid (RA w8 Y 28 #[.int .i64 (SQ - 1), .int .i64 t.fl, (Value.slice aF nF cF), (Value.slice aR nR cR)]) := by rw [hw8]; exact YR4.out.set 0 _
   have XR : Hid (RA w8 w.heap.size 28 #[.int .i64 0, .int .i64 0, .slice none 0 0, .slice none 0 0]) := by rw [hw8]; exact XR4.out.other _ _ (by show w.heap.size ≠ Y; have := XY.out; omega)
   have G28 : w2.grownBy w8 (some c) := by rw [hw8]; exact grown_far G24.out (by rw [HY.out]; exact Nat.le_refl _) 0 _
   have G8 : Hid (w.grownBy w8 (some c)) := by rw [hw8]; exact grown_far G4.out (Nat.le_of_lt XY.out) 0 _
   have S8 : Hid (Src W0 w8 c a len cap p8) := by rw [hw8]; exact S4.out.set (by have := CW.out; have := XY.out; omega) 0 _
   have T8 := hid (W2.out.far G28 (by have := CW.out; exact this) BQ.out); have HW8 := hid hw8; clear hw8 G28 hSQ
   go_upto_region 14 with fail
   rw [← HW8.out]; clear HW8 yf y0; have y0 := YR.out.cell 0; have y1 := YR.out.cell 1; have y2 := YR.out.cell 2; have y3 := YR.out.cell 3
   go_wp2_with (refine wpList_store_row rfl 28 (.tmp 2) (.tmp 60) rfl w.heap.size #[.int .i64 (SQ - 1), .int .i64 t.fl, (Value.slice aF nF cF), (Value.slice aR nR cR)] rfl rfl _ _ XR.out (by kernel_rfl) rfl (by simp [Value.oneCell']) ?_)
   have ok : ∀ {g9 ty9 cs9}, RA w8 g9 ty9 cs9 → ty9 ≠ 28 → RA (w8.setRow w.heap.size #[.int .i64 (SQ - 1), .int .i64 t.fl, (Value.slice aF nF cF), (Value.slice aR nR cR)]) g9 ty9 cs9 := fun {g9 ty9 cs9} r hne => r.otherRow _ _ (row_ne r XR.out hne); refine bodyPost_ret (v := .agg #[.int .i64 (SQ - 1), .int .i64 t.fl, (Value.slice aF nF cF), (Value.slice aR nR cR)]) ?_ rfl ⟨⟨(SQ - 1), t.fl, _, t.fr, _, Q, rfl, ?_⟩, ⟨p8, S8.out.setRowD CW.out _, by omega⟩, grown_setRowD G8.out (Nat.le_refl _) _⟩
   · exact results_cell_row Tryz.results19 _ _ w.heap.size _ _ _ _ rfl (XR.out.setRow _) Tryz.underlying28 rfl (by kernel_rfl)
   · exact ⟨T8.out.fr.keep fun g cs e r => ok r (by decide), or_keep T8.out.rs fun g cs e r => ok r (by decide), fun p hp => (T8.out.ru p hp).keep fun g cs e r => ok r (by decide), T8.out.nF, T8.out.nQ, T8.out.tot, T8.out.eF, T8.out.eQ⟩
 by_cases k1 : r = 1
 · subst k1
   go_wp2_with fail
   refine at6_wp W0 w2 c a len cap p8 Y t.sq t.fl (Value.slice aF nF cF) (Value.slice aR nR cR) w4 S4.out G24.out ⟨C2.out, by rw [HY.out]; exact Nat.le_refl _⟩ YR4.out ⟨by omega, TK.out.q0, TK.out.q1⟩ ?_; intro X5 R7 fv p9 w8 hs8 hp9 hg8 hc8; intros
   rename_i hY8 _
   have YR : Hid (RA w8 Y 28 #[.int .i64 t.sq, .int .i64 fv, (Value.slice aF nF cF), (Value.slice aR nR cR)]) := hY8; have G28 : w2.grownBy w8 (some c) := hg8; have XR := hid (rowF XR2.out G28 CW.out); have G8 := hid (grown_trans G2.out G28); have S8 : Hid (Src W0 w8 c a len cap p9) := hs8; have T8 := hid (W2.out.far G28 (by have := CW.out; exact this) BQ.out); clear hs8 hg8 hc8 hY8 G28; have y0 := YR.out.cell 0; have y1 := YR.out.cell 1; have y2 := YR.out.cell 2; have y3 := YR.out.cell 3
   go_wp2_with (refine wpList_store_row rfl 28 (.tmp 2) (.tmp 60) rfl w.heap.size #[.int .i64 t.sq, .int .i64 fv, (Value.slice aF nF cF), (Value.slice aR nR cR)] rfl rfl _ _ XR.out (by kernel_rfl) rfl (by simp [Value.oneCell']) ?_)
   have ok : ∀ {g9 ty9 cs9}, RA w8 g9 ty9 cs9 → ty9 ≠ 28 → RA (w8.setRow w.heap.size #[.int .i64 t.sq, .int .i64 fv, (Value.slice aF nF cF), (Value.slice aR nR cR)]) g9 ty9 cs9 := fun {g9 ty9 cs9} r hne => r.otherRow _ _ (row_ne r XR.out hne); refine bodyPost_ret (v := .agg #[.int .i64 t.sq, .int .i64 fv, (Value.slice aF nF cF), (Value.slice aR nR cR)]) ?_ rfl ⟨⟨t.sq, fv, _, t.fr, _, Q, rfl, ?_⟩, ⟨p9, S8.out.setRowD CW.out _, by omega⟩, grown_setRowD G8.out (Nat.le_refl _) _⟩
   · exact results_cell_row Tryz.results19 _ _ w.heap.size _ _ _ _ rfl (XR.out.setRow _) Tryz.underlying28 rfl (by kernel_rfl)
   · exact ⟨T8.out.fr.keep fun g cs e r => ok r (by decide), or_keep T8.out.rs fun g cs e r => ok r (by decide), fun p hp => (T8.out.ru p hp).keep fun g cs e r => ok r (by decide), T8.out.nF, T8.out.nQ, T8.out.tot, T8.out.eF, T8.out.eQ⟩
 by_cases k2 : r = 2
 · subst k2
   go_wp2_with fail
   refine at8_wp W0 w2 c a len cap p8 Y B t.sq t.fl aF nF cF t.fr (Value.slice aR nR cR) w4 S4.out ⟨G24.out.os, G24.out.tape, G24.out.output, G24.out.size, fun k hk h1 _ => G24.out.block k hk (fun e => h1 (Option.some.inj e))⟩ ⟨CB.out, BW2.out, by rw [HY.out]; exact Nat.le_refl _⟩ V4.out.fr YR4.out ⟨by omega, by have := W2.out.nF; have := HNF.out; omega, HNF.out.symm⟩ ?_; intro R4 X6 G CP p9 w8 hs8 hp9 hg8 hc8; intros
   rename_i hO8 hY8 _
   have YR : Hid (RA w8 Y 28 #[.int .i64 t.sq, .int .i64 t.fl, (Value.slice (some ⟨G, 0, none⟩) (nF + 1) CP), (Value.slice aR nR cR)]) := hY8; have kp : ∀ {g ty cs}, RA w2 g ty cs → g ≠ c → (Value.slice aF nF cF).ownBlock ≠ some g → RA w8 g ty cs := fun {g ty cs} r h1 h2 => (hg8.block g r.lt h1 h2).trans r
   have nE : ∀ {g ty cs}, RA w2 g ty cs → ty ≠ 46 → (Value.slice aF nF cF).ownBlock ≠ some g := fun {g ty cs} r hn e => by
    obtain ⟨_, _, cs', r'⟩ := V2.out.fr.row e; exact row_ne r r' hn rfl
   have nC : ∀ {g}, B ≤ g → g ≠ c := fun {g} h1 e => by have := CB.out; omega
   have XR : Hid (RA w8 w.heap.size 28 #[.int .i64 0, .int .i64 0, .slice none 0 0, .slice none 0 0]) := kp XR2.out (by have := CW.out; omega) (nE XR2.out (by decide)); have G8 : Hid (w.grownBy w8 (some c)) := ⟨hg8.os.trans G2.out.os, hg8.tape.trans G2.out.tape, hg8.output.trans G2.out.output, Nat.le_trans G2.out.size hg8.size, fun k hk h1 => (hg8.block k (Nat.lt_of_lt_of_le hk G2.out.size) (fun e => h1 (by rw [e])) (fun e => by have := (V2.out.fr.row e).1; have := BQ.out; omega)).trans (G2.out.block k hk h1)⟩; have S8 : Hid (Src W0 w8 c a len cap p9) := hs8
   have T8 : Hid (TbW w8 w.heap.size (Value.slice (some ⟨G, 0, none⟩) (nF + 1) CP) (t.fr ++ [(⟨⟨#[98]⟩, (R4 : Int), false, ⟨#[]⟩⟩ : En)]) (Value.slice aR nR cR) Q) := by
    refine ⟨OwnEn.baseUp hO8 BQ.out, or_baseUp (or_keep V2.out.rs fun g cs e r => kp r (nC (or_row V2.out.rs e).1) (nE r (by decide))) BQ.out, fun q hq => OwnEn.baseUp ((V2.out.ru q hq).keep fun g cs e r => kp r (nC ((V2.out.ru q hq).row e).1) (V2.out.ap q hq g e)) BQ.out, by rw [List.length_append]; have := W2.out.nF1; show _ + 1 ≤ _; omega, W2.out.nQ, W2.out.tot, fun e he => ?_, W2.out.eQ⟩
    rcases List.mem_append.1 he with he | he
    · exact W2.out.eF e he
    · rw [List.mem_singleton] at he
      subst he; exact ⟨(by decide : (⟨#[98]⟩ : ByteArray).size ≤ 1048576), (by decide : (⟨#[]⟩ : ByteArray).size ≤ 1048576)⟩
   clear hs8 hg8 hc8 hY8 hO8 kp nE nC; have y0 := YR.out.cell 0; have y1 := YR.out.cell 1; have y2 := YR.out.cell 2; have y3 := YR.out.cell 3
   go_wp2_with (refine wpList_store_row rfl 28 (.tmp 2) (.tmp 60) rfl w.heap.size #[.int .i64 t.sq, .int .i64 t.fl, (Value.slice (some ⟨G, 0, none⟩) (nF + 1) CP), (Value.slice aR nR cR)] rfl rfl _ _ XR.out (by kernel_rfl) rfl (by simp [Value.oneCell']) ?_)
   have ok : ∀ {g9 ty9 cs9}, RA w8 g9 ty9 cs9 → ty9 ≠ 28 → RA (w8.setRow w.heap.size #[.int .i64 t.sq, .int .i64 t.fl, (Value.slice (some ⟨G, 0, none⟩) (nF + 1) CP), (Value.slice aR nR cR)]) g9 ty9 cs9 := fun {g9 ty9 cs9} r hne => r.otherRow _ _ (row_ne r XR.out hne); refine bodyPost_ret (v := .agg #[.int .i64 t.sq, .int .i64 t.fl, (Value.slice (some ⟨G, 0, none⟩) (nF + 1) CP), (Value.slice aR nR cR)]) ?_ rfl ⟨⟨t.sq, t.fl, _, (t.fr ++ [(⟨⟨#[98]⟩, (R4 : Int), false, ⟨#[]⟩⟩ : En)]), _, Q, rfl, ?_⟩, ⟨p9, S8.out.setRowD CW.out _, by omega⟩, grown_setRowD G8.out (Nat.le_refl _) _⟩
   · exact results_cell_row Tryz.results19 _ _ w.heap.size _ _ _ _ rfl (XR.out.setRow _) Tryz.underlying28 rfl (by kernel_rfl)
   · exact ⟨T8.out.fr.keep fun g cs e r => ok r (by decide), or_keep T8.out.rs fun g cs e r => ok r (by decide), fun p hp => (T8.out.ru p hp).keep fun g cs e r => ok r (by decide), T8.out.nF, T8.out.nQ, T8.out.tot, T8.out.eF, T8.out.eQ⟩
 by_cases k3 : r = 3
 · subst k3
   have y2 := YR4.out.cell 2; have y3 := YR4.out.cell 3
   go_wp2_with (at_builtin; refine lockT ?_)
   refine hid ?_; refine append_run B w4 rfl (.tmp 42) (.tmp 45) rfl (Value.slice aR nR cR) Q ((Value.slice aF nF cF), t.fr) rfl V4.out.rs (Nat.le_trans BW2.out G24.out.size) rfl rfl (by have := W2.out.nQ; omega) ?_; intro v7 w7 hR7 hg7; obtain ⟨a7, k7, hv7⟩ := or_slice hR7; obtain ⟨N7, hN7⟩ : ∃ N, N = (Q ++ [((Value.slice aF nF cF), t.fr)]).length := ⟨_, rfl⟩; rw [← hN7] at hv7; subst hv7; clear hN7; have ne7 : ∀ {g ty cs}, RA w4 g ty cs → ty ≠ 25 → RA w7 g ty cs := fun {g ty cs} r hn => (hg7.block g r.lt (fun e => by obtain ⟨_, _, cs', r'⟩ := or_row V4.out.rs e.symm; exact row_ne r r' hn rfl)).trans r; have yr7 := ne7 YR4.out (by decide); have c3 := yr7.cell 3; have f3 := yr7.free 3; obtain ⟨w8, hw8⟩ : ∃ W, W = w7.setCell ⟨Y, 3, none⟩ (Value.slice a7 N7 k7) := ⟨_, rfl⟩; have YR : Hid (RA w8 Y 28 #[.int .i64 t.sq, .int .i64 t.fl, (Value.slice aF nF cF), (Value.slice a7 N7 k7)]) := by rw [hw8]; exact yr7.set 3 _
   have k8 : ∀ {g ty cs}, RA w7 g ty cs → g ≠ Y → RA w8 g ty cs := fun {g ty cs} r hn => by rw [hw8]; exact r.other _ _ hn
   have XR : Hid (RA w8 w.heap.size 28 #[.int .i64 0, .int .i64 0, .slice none 0 0, .slice none 0 0]) := k8 (ne7 XR4.out (by decide)) (by have := XY.out; omega); have oc : ∀ g, (Value.slice aR nR cR).ownBlock = some g → B ≤ g := fun g e => (or_row V4.out.rs e).1; have g47 : w.grownBy w7 (some c) := ⟨hg7.os.trans G4.out.os, hg7.tape.trans G4.out.tape, hg7.output.trans G4.out.output, Nat.le_trans G4.out.size hg7.size, fun k hk h1 => (hg7.block k (Nat.lt_of_lt_of_le hk G4.out.size) (fun e => by have := oc k e.symm; have := BQ.out; omega)).trans (G4.out.block k hk h1)⟩; have G8 : Hid (w.grownBy w8 (some c)) := by rw [hw8]; exact grown_far g47 (Nat.le_of_lt XY.out) 3 _
   have S7 : Src W0 w7 c a len cap p8 := S4.out.far hg7 (fun e => by have := oc c e.symm; have := CB.out; omega) (fun g e => by have := oc g e; have := S4.out.2.2.2.2; have := CB.out; omega); have S8 : Hid (Src W0 w8 c a len cap p8) := by rw [hw8]; exact S7.set (by have := CW.out; have := XY.out; omega) 3 _
   have T8 : Hid (TbW w8 w.heap.size (Value.slice aF nF cF) t.fr (Value.slice a7 N7 k7) (Q ++ [((Value.slice aF nF cF), t.fr)])) := by
    have kk : ∀ {g cs}, RA w4 g 46 cs → RA w8 g 46 cs := fun {g cs} r => k8 (ne7 r (by decide)) (row_ne (ne7 r (by decide)) yr7 (by decide)); refine ⟨OwnEn.baseUp (V4.out.fr.keep fun g cs e r => kk r) BQ.out, or_baseUp (or_keep hR7 fun g cs e r => k8 r (row_ne r yr7 (by decide))) BQ.out, fun q hq => ?_, W2.out.nF, by rw [List.length_append]; have := W2.out.nQ1; show _ + 1 ≤ _; omega, ?_, W2.out.eF, fun q hq => ?_⟩
    · rcases List.mem_append.1 hq with hq | hq
      · exact OwnEn.baseUp ((V4.out.ru q hq).keep fun g cs e r => kk r) BQ.out
      · rw [List.mem_singleton] at hq
        subst hq; exact OwnEn.baseUp (V4.out.fr.keep fun g cs e r => kk r) BQ.out
    · rw [List.map_append, List.sum_append]
      have q1 := W2.out.tot1; have q2 := W2.out.nF
      show _ + (t.fr.length + 0) ≤ _
      omega
    · rcases List.mem_append.1 hq with hq | hq
      · exact W2.out.eQ q hq
      · rw [List.mem_singleton] at hq
        subst hq; exact W2.out.eF
   have HW8 := hid hw8; clear hw8 hR7 hg7 ne7 yr7 k8 oc g47 S7 y2 y3
   go_upto_region 14 with fail
   rw [← HW8.out]; clear HW8 c3 f3; have y0 := YR.out.cell 0; have y1 := YR.out.cell 1; have y2 := YR.out.cell 2; have y3 := YR.out.cell 3
   go_wp2_with (refine wpList_store_row rfl 28 (.tmp 2) (.tmp 60) rfl w.heap.size #[.int .i64 t.sq, .int .i64 t.fl, (Value.slice aF nF cF), (Value.slice a7 N7 k7)] rfl rfl _ _ XR.out (by kernel_rfl) rfl (by simp [Value.oneCell']) ?_)
   have ok : ∀ {g9 ty9 cs9}, RA w8 g9 ty9 cs9 → ty9 ≠ 28 → RA (w8.setRow w.heap.size #[.int .i64 t.sq, .int .i64 t.fl, (Value.slice aF nF cF), (Value.slice a7 N7 k7)]) g9 ty9 cs9 := fun {g9 ty9 cs9} r hne => r.otherRow _ _ (row_ne r XR.out hne); refine bodyPost_ret (v := .agg #[.int .i64 t.sq, .int .i64 t.fl, (Value.slice aF nF cF), (Value.slice a7 N7 k7)]) ?_ rfl ⟨⟨t.sq, t.fl, _, t.fr, _, (Q ++ [((Value.slice aF nF cF), t.fr)]), rfl, ?_⟩, ⟨p8, S8.out.setRowD CW.out _, by omega⟩, grown_setRowD G8.out (Nat.le_refl _) _⟩
   · exact results_cell_row Tryz.results19 _ _ w.heap.size _ _ _ _ rfl (XR.out.setRow _) Tryz.underlying28 rfl (by kernel_rfl)
   · exact ⟨T8.out.fr.keep fun g cs e r => ok r (by decide), or_keep T8.out.rs fun g cs e r => ok r (by decide), fun p hp => (T8.out.ru p hp).keep fun g cs e r => ok r (by decide), T8.out.nF, T8.out.nQ, T8.out.tot, T8.out.eF, T8.out.eQ⟩
 by_cases k4 : r = 4
 · subst k4
   by_cases hz : nF = 0
   · have e1 : ¬ (0 : Int) < (nF : Int) := by omega
     have e2 : decide ((0 : Int) < (nF : Int)) = false := by simp; omega
     clear hz; obtain ⟨w8, hw8⟩ : ∃ W, W = w4 := ⟨_, rfl⟩; have YR : Hid (RA w8 Y 28 #[.int .i64 t.sq, .int .i64 t.fl, (Value.slice aF nF cF), (Value.slice aR nR cR)]) := by rw [hw8]; exact YR4.out
     have XR : Hid (RA w8 w.heap.size 28 #[.int .i64 0, .int .i64 0, .slice none 0 0, .slice none 0 0]) := by rw [hw8]; exact XR4.out
     have G28 : w2.grownBy w8 (some c) := by rw [hw8]; exact G24.out
     have G8 : Hid (w.grownBy w8 (some c)) := by rw [hw8]; exact G4.out
     have S8 : Hid (Src W0 w8 c a len cap p8) := by rw [hw8]; exact S4.out
     have T8 := hid (W2.out.far G28 (by have := CW.out; exact this) BQ.out); have z2 := YR4.out.cell 2
     go_upto_region 14 with fail
     rw [← hw8]; clear hw8 G28 z2; have y0 := YR.out.cell 0; have y1 := YR.out.cell 1; have y2 := YR.out.cell 2; have y3 := YR.out.cell 3
     go_wp2_with (refine wpList_store_row rfl 28 (.tmp 2) (.tmp 60) rfl w.heap.size #[.int .i64 t.sq, .int .i64 t.fl, (Value.slice aF nF cF), (Value.slice aR nR cR)] rfl rfl _ _ XR.out (by kernel_rfl) rfl (by simp [Value.oneCell']) ?_)
     have ok : ∀ {g9 ty9 cs9}, RA w8 g9 ty9 cs9 → ty9 ≠ 28 → RA (w8.setRow w.heap.size #[.int .i64 t.sq, .int .i64 t.fl, (Value.slice aF nF cF), (Value.slice aR nR cR)]) g9 ty9 cs9 := fun {g9 ty9 cs9} r hne => r.otherRow _ _ (row_ne r XR.out hne); refine bodyPost_ret (v := .agg #[.int .i64 t.sq, .int .i64 t.fl, (Value.slice aF nF cF), (Value.slice aR nR cR)]) ?_ rfl ⟨⟨t.sq, t.fl, _, t.fr, _, Q, rfl, ?_⟩, ⟨p8, S8.out.setRowD CW.out _, by omega⟩, grown_setRowD G8.out (Nat.le_refl _) _⟩
     · exact results_cell_row Tryz.results19 _ _ w.heap.size _ _ _ _ rfl (XR.out.setRow _) Tryz.underlying28 rfl (by kernel_rfl)
     · exact ⟨T8.out.fr.keep fun g cs e r => ok r (by decide), or_keep T8.out.rs fun g cs e r => ok r (by decide), fun p hp => (T8.out.ru p hp).keep fun g cs e r => ok r (by decide), T8.out.nF, T8.out.nQ, T8.out.tot, T8.out.eF, T8.out.eQ⟩
   · have e1 : (0 : Int) < (nF : Int) := by omega
     have e2 : decide ((0 : Int) < (nF : Int)) = true := by simp; omega
     obtain ⟨x, r, hxr⟩ : ∃ x r, t.fr = x :: r := by
      cases hfr : t.fr with
      | nil => have := HNF.out; rw [hfr] at this; exact absurd this hz
      | cons x r => exact ⟨x, r, rfl⟩
     obtain ⟨g, cg, hvg, hgB, hgl⟩ := V4.out.fr.shape (by rw [hxr]; simp); have hvg' : (Value.slice aF nF cF) = .slice (some ⟨g, 0, none⟩) t.fr.length cg := hvg
     injection hvg' with ea en ec
     subst ea; clear en ec hvg; obtain ⟨og, gc, gf⟩ := OwnEn.gone (by have := V4.out.fr; rw [hxr] at this; exact this); have y2 := YR4.out.cell 2
     have nY : g ≠ Y := by
      obtain ⟨_, _, cs, rg⟩ := V4.out.fr.row (show (Value.slice (some ⟨g, 0, none⟩) nF cF).ownBlock = some g from rfl); exact row_ne rg YR4.out (by decide)
     have nX : g ≠ w.heap.size := by have := BQ1.out; omega
     obtain ⟨w8, hw8⟩ : ∃ W, W = w4.setCell ⟨g, 2, none⟩ (.bool true) := ⟨_, rfl⟩; have YR : Hid (RA w8 Y 28 #[.int .i64 t.sq, .int .i64 t.fl, (Value.slice (some ⟨g, 0, none⟩) nF cF), (Value.slice aR nR cR)]) := by rw [hw8]; exact YR4.out.other _ _ (fun e => nY e.symm)
     have XR : Hid (RA w8 w.heap.size 28 #[.int .i64 0, .int .i64 0, .slice none 0 0, .slice none 0 0]) := by rw [hw8]; exact XR4.out.other _ _ (fun e => nX e.symm)
     have G8 : Hid (w.grownBy w8 (some c)) := by rw [hw8]; exact grown_far G4.out (by have := BQ.out; omega) 2 _
     have S8 : Hid (Src W0 w8 c a len cap p8) := by rw [hw8]; exact S4.out.set (by have := CB.out; omega) 2 _
     have T8 : Hid (TbW w8 w.heap.size (Value.slice (some ⟨g, 0, none⟩) nF cF) (⟨x.ky, x.sq, true, x.tx⟩ :: r) (Value.slice aR nR cR) Q) := by
      refine ⟨by rw [hw8]; exact OwnEn.baseUp og BQ.out, ?_, fun q hq => ?_, ?_, W2.out.nQ, W2.out.tot, fun e he => ?_, W2.out.eQ⟩
      · rw [hw8]
        exact or_baseUp (or_keep V4.out.rs fun g' cs e rr => rr.other _ _ (by
         obtain ⟨_, _, cs2, rg⟩ := V4.out.fr.row (show (Value.slice (some ⟨g, 0, none⟩) nF cF).ownBlock = some g from rfl)
         exact row_ne rr rg (by decide))) BQ.out
      · rw [hw8]
        exact OwnEn.baseUp ((V4.out.ru q hq).keep fun g' cs e rr => rr.other _ _ (fun e2 => V4.out.ap q hq g' e (by rw [e2]; rfl))) BQ.out
      · have := W2.out.nF; rw [hxr] at this; exact this
      · have hm := W2.out.eF
        rw [hxr] at hm
        rcases List.mem_cons.1 he with rfl | he
        · exact hm x (by simp)
        · exact hm e (by simp [he])
     have HW8 := hid hw8; have HXR := hid hxr; clear hw8 hgl og nX nY hz hxr
     go_upto_region 14 with fail
     rw [← HW8.out]; clear HW8 y2 gc gf; have y0 := YR.out.cell 0; have y1 := YR.out.cell 1; have y2 := YR.out.cell 2; have y3 := YR.out.cell 3
     go_wp2_with (refine wpList_store_row rfl 28 (.tmp 2) (.tmp 60) rfl w.heap.size #[.int .i64 t.sq, .int .i64 t.fl, (Value.slice (some ⟨g, 0, none⟩) nF cF), (Value.slice aR nR cR)] rfl rfl _ _ XR.out (by kernel_rfl) rfl (by simp [Value.oneCell']) ?_)
     have ok : ∀ {g9 ty9 cs9}, RA w8 g9 ty9 cs9 → ty9 ≠ 28 → RA (w8.setRow w.heap.size #[.int .i64 t.sq, .int .i64 t.fl, (Value.slice (some ⟨g, 0, none⟩) nF cF), (Value.slice aR nR cR)]) g9 ty9 cs9 := fun {g9 ty9 cs9} r hne => r.otherRow _ _ (row_ne r XR.out hne); refine bodyPost_ret (v := .agg #[.int .i64 t.sq, .int .i64 t.fl, (Value.slice (some ⟨g, 0, none⟩) nF cF), (Value.slice aR nR cR)]) ?_ rfl ⟨⟨t.sq, t.fl, _, (⟨x.ky, x.sq, true, x.tx⟩ :: r), _, Q, rfl, ?_⟩, ⟨p8, S8.out.setRowD CW.out _, by omega⟩, grown_setRowD G8.out (Nat.le_refl _) _⟩
     · exact results_cell_row Tryz.results19 _ _ w.heap.size _ _ _ _ rfl (XR.out.setRow _) Tryz.underlying28 rfl (by kernel_rfl)
     · exact ⟨T8.out.fr.keep fun g cs e r => ok r (by decide), or_keep T8.out.rs fun g cs e r => ok r (by decide), fun p hp => (T8.out.ru p hp).keep fun g cs e r => ok r (by decide), T8.out.nF, T8.out.nQ, T8.out.tot, T8.out.eF, T8.out.eQ⟩
 have m0 : (r == 0) = false := by simpa using k0
 have m1 : (r == 1) = false := by simpa using k1
 have m2 : (r == 2) = false := by simpa using k2
 have m3 : (r == 3) = false := by simpa using k3
 have m4 : (r == 4) = false := by simpa using k4
 clear k0 k1 k2 k3 k4; obtain ⟨w8, hw8⟩ : ∃ W, W = w4 := ⟨_, rfl⟩; have YR : Hid (RA w8 Y 28 #[.int .i64 t.sq, .int .i64 t.fl, (Value.slice aF nF cF), (Value.slice aR nR cR)]) := by rw [hw8]; exact YR4.out
 have XR : Hid (RA w8 w.heap.size 28 #[.int .i64 0, .int .i64 0, .slice none 0 0, .slice none 0 0]) := by rw [hw8]; exact XR4.out
 have G28 : w2.grownBy w8 (some c) := by rw [hw8]; exact G24.out
 have G8 : Hid (w.grownBy w8 (some c)) := by rw [hw8]; exact G4.out
 have S8 : Hid (Src W0 w8 c a len cap p8) := by rw [hw8]; exact S4.out
 have T8 := hid (W2.out.far G28 (by have := CW.out; exact this) BQ.out); have z2 := YR4.out.cell 2
 go_upto_region 14 with fail
 rw [← hw8]; clear hw8 G28 z2; have y0 := YR.out.cell 0; have y1 := YR.out.cell 1; have y2 := YR.out.cell 2; have y3 := YR.out.cell 3
 go_wp2_with (refine wpList_store_row rfl 28 (.tmp 2) (.tmp 60) rfl w.heap.size #[.int .i64 t.sq, .int .i64 t.fl, (Value.slice aF nF cF), (Value.slice aR nR cR)] rfl rfl _ _ XR.out (by kernel_rfl) rfl (by simp [Value.oneCell']) ?_)
 have ok : ∀ {g9 ty9 cs9}, RA w8 g9 ty9 cs9 → ty9 ≠ 28 → RA (w8.setRow w.heap.size #[.int .i64 t.sq, .int .i64 t.fl, (Value.slice aF nF cF), (Value.slice aR nR cR)]) g9 ty9 cs9 := fun {g9 ty9 cs9} r hne => r.otherRow _ _ (row_ne r XR.out hne); refine bodyPost_ret (v := .agg #[.int .i64 t.sq, .int .i64 t.fl, (Value.slice aF nF cF), (Value.slice aR nR cR)]) ?_ rfl ⟨⟨t.sq, t.fl, _, t.fr, _, Q, rfl, ?_⟩, ⟨p8, S8.out.setRowD CW.out _, by omega⟩, grown_setRowD G8.out (Nat.le_refl _) _⟩
 · exact results_cell_row Tryz.results19 _ _ w.heap.size _ _ _ _ rfl (XR.out.setRow _) Tryz.underlying28 rfl (by kernel_rfl)
 · exact ⟨T8.out.fr.keep fun g cs e r => ok r (by decide), or_keep T8.out.rs fun g cs e r => ok r (by decide), fun p hp => (T8.out.ru p hp).keep fun g cs e r => ok r (by decide), T8.out.nF, T8.out.nQ, T8.out.tot, T8.out.eF, T8.out.eQ⟩
end Go.Proofs.YtcbmgpdpjagaoaaGreat
