import Derived.Test.YtcbmgpdpjagaoaaGreatG3
import Derived.Test.YtcbmgpdpjagaoaaGreatD0
import Derived.Test.YtcbmgpdpjagaoaaGreatG4
namespace Go.Proofs.YtcbmgpdpjagaoaaGreat
open Go.RowKit
theorem rowF {w w' : World} {b c : Nat} {t : TypeId} {cs : Array Value} (h : RA w b t cs) (hg : w.grownBy w' (some c)) (hn : c < b) : RA w' b t cs := (hg.block b h.lt (fun e => by cases e; omega)).trans h
theorem grown_setCellF (w : World) (b k : Nat) (v : Value) : w.grownBy (w.setCell ⟨b, k, none⟩ v) (some b) :=
 ⟨rfl, rfl, rfl, by simp, fun j _ hj => heap_setCell_other w ⟨b, k, none⟩ j v (fun e => hj (by rw [e]))⟩
theorem Src.set {W0 w : World} {c : Nat} {a : Option Addr} {len cap p : Nat} (h : Src W0 w c a len cap p) {b : Nat} (hb : c < b) (k : Nat) (v : Value) : Src W0 (w.setCell ⟨b, k, none⟩ v) c a len cap p :=
 h.far (grown_setCellF w b k v) (fun e => by cases e; omega) (fun g hg => by cases hg; have := h.2.2.2.2; omega)
theorem grown_far {X w : World} {r : Option Nat} (h : X.grownBy w r) {b : Nat} (hb : X.heap.size ≤ b) (k : Nat) (v : Value) : X.grownBy (w.setCell ⟨b, k, none⟩ v) r :=
 ⟨h.os, h.tape, h.output, by simp [h.size], fun j hj hr => (heap_setCell_other w ⟨b, k, none⟩ j v (by simp; omega)).trans (h.block j hj hr)⟩
theorem grown_al {X w : World} {r : Option Nat} (h : X.grownBy w r) (o : Obj) : X.grownBy (w.alloc o) r := grown_trans h (World.grownBy_alloc w o r)
theorem Src.belowD {W0 w w' : World} {c : Nat} {a : Option Addr} {len cap p : Nat} (h : Src W0 w c a len cap p) (hb : Below w.heap.size w w') : Src W0 w' c a len cap p :=
 h.far (below_grown hb none) (by simp) (by intro g hg; cases hg)
theorem grown_setRowD {X w : World} {r : Option Nat} (h : X.grownBy w r) {b : Nat} (hb : X.heap.size ≤ b) (c : Array Value) : X.grownBy (w.setRow b c) r :=
 ⟨h.os, h.tape, h.output, by simp [World.setRow, h.size], fun j hj hr => (setRow_other w b j c (by omega)).trans (h.block j hj hr)⟩
theorem Src.setRowD {W0 w : World} {c : Nat} {a : Option Addr} {len cap p : Nat} (h : Src W0 w c a len cap p) {b : Nat} (hb : c < b) (cs : Array Value) : Src W0 (w.setRow b cs) c a len cap p :=
 h.far (r := some b) ⟨rfl, rfl, rfl, by simp [World.setRow], fun j _ hr => setRow_other w b j cs (fun e => hr (by rw [e]))⟩ (fun e => by cases e; omega) (fun g hg => by cases hg; have := h.2.2.2.2; omega)
end Go.Proofs.YtcbmgpdpjagaoaaGreat
namespace Go.Proofs.YtcbmgpdpjagaoaaGreat
open Go.RowKit
set_option linter.unusedVariables false
theorem rowNeT {w : World} {x y : Nat} {t u : TypeId} {cs ds : Array Value} (h : RA w x t cs) (k : RA w y u ds) (hn : t ≠ u) : x ≠ y := fun e => by
 subst e; have := Option.some.inj (Eq.trans (Eq.symm h) k)
 injection this with _ h2
 exact hn h2
theorem kind9_at (k : Nat) (hk : k < 9) : ∃ x : Int, (#[.int .i64 1, .int .i64 1, .int .i64 1, .int .i64 2, .int .i64 3, .int .i64 4, .int .i64 5, .int .i64 5, .int .i64 6] : Array Value)[k]? = some (.int .i64 x) := by
 rcases (by omega : k = 0 ∨ k = 1 ∨ k = 2 ∨ k = 3 ∨ k = 4 ∨ k = 5 ∨ k = 6 ∨ k = 7 ∨ k = 8) with rfl | rfl | rfl | rfl | rfl | rfl | rfl | rfl | rfl
 all_goals exact ⟨_, rfl⟩
theorem key4_at (k : Nat) (hk : k < 4) : ∃ x : ByteArray, (#[.string ⟨#[97]⟩, .string ⟨#[98]⟩, .string ⟨#[99]⟩, .string ⟨#[100]⟩] : Array Value)[k]? = some (.string x) ∧ x.size ≤ 1 := by
 rcases (by omega : k = 0 ∨ k = 1 ∨ k = 2 ∨ k = 3) with rfl | rfl | rfl | rfl
 all_goals exact ⟨_, rfl, by decide⟩
def to5o0 : Oper := ⟨some 14, .buildSlice 59 9 #[(0, .const (.int .i64 1)), (1, .const (.int .i64 1)), (2, .const (.int .i64 1)), (3, .const (.int .i64 2)), (4, .const (.int .i64 3)), (5, .const (.int .i64 4)), (6, .const (.int .i64 5)), (7, .const (.int .i64 5)), (8, .const (.int .i64 6))], 59, "l08_runs.go:248", #[], none⟩
def to5o1 : Oper := ⟨some 15, .move (.tmp 0), 50, "l08_runs.go:248", #[], none⟩
def to5o2 : Oper := ⟨some 16, .call { callee := .value (.func 21), args := #[.tmp 15, .const (.int .i64 9)], argTypes := #[50, 2] }, 2, "l08_runs.go:248", #[⟨1, .data⟩], none⟩
def to5o3 : Oper := ⟨some 17, .indexAddr 59 (.tmp 14) (.tmp 16), 0, "l08_runs.go:248", #[⟨0, .data⟩, ⟨2, .data⟩], none⟩
def to5o4 : Oper := ⟨some 18, .load 2 (.tmp 17), 2, "l08_runs.go:248", #[⟨3, .data⟩], none⟩
def to5o5 : Oper := ⟨some 19, .buildSlice 44 4 #[(0, .const (.string { data := #[97] })), (1, .const (.string { data := #[98] })), (2, .const (.string { data := #[99] })), (3, .const (.string { data := #[100] }))], 44, "l08_runs.go:248", #[], none⟩
def to5o6 : Oper := ⟨some 20, .move (.tmp 0), 50, "l08_runs.go:248", #[], none⟩
def to5o7 : Oper := ⟨some 21, .call { callee := .value (.func 21), args := #[.tmp 20, .const (.int .i64 4)], argTypes := #[50, 2] }, 2, "l08_runs.go:248", #[⟨6, .data⟩, ⟨2, .chain⟩], none⟩
def to5o8 : Oper := ⟨some 22, .indexAddr 44 (.tmp 19) (.tmp 21), 0, "l08_runs.go:248", #[⟨5, .data⟩, ⟨7, .data⟩], none⟩
def to5o9 : Oper := ⟨some 23, .load 9 (.tmp 22), 9, "l08_runs.go:248", #[⟨8, .data⟩], none⟩
def to5o10 : Oper := ⟨some 24, .move (.tmp 0), 50, "l08_runs.go:248", #[], none⟩
def to5o11 : Oper := ⟨some 25, .call { callee := .value (.func 40), args := #[.tmp 24], argTypes := #[50] }, 9, "l08_runs.go:248", #[⟨10, .data⟩, ⟨7, .chain⟩], none⟩
def to5o12 : Oper := ⟨some 26, .move (.tmp 0), 50, "l08_runs.go:248", #[], none⟩
def to5o13 : Oper := ⟨some 27, .call { callee := .value (.func 21), args := #[.tmp 26, .const (.int .i64 12)], argTypes := #[50, 2] }, 2, "l08_runs.go:248", #[⟨12, .data⟩, ⟨11, .chain⟩], none⟩
def to5o14 : Oper := ⟨some 28, .move (.tmp 0), 50, "l08_runs.go:248", #[], none⟩
def to5o15 : Oper := ⟨some 29, .call { callee := .value (.func 21), args := #[.tmp 28, .const (.int .i64 5)], argTypes := #[50, 2] }, 2, "l08_runs.go:248", #[⟨14, .data⟩, ⟨13, .chain⟩], none⟩
def to5o16 : Oper := ⟨some 30, .build 39 #[(0, .tmp 18), (1, .tmp 23), (2, .tmp 25), (3, .tmp 27), (5, .tmp 29)], 39, "l08_runs.go:248", #[⟨4, .data⟩, ⟨9, .data⟩, ⟨11, .data⟩, ⟨13, .data⟩, ⟨15, .data⟩], none⟩
def to5o17 : Oper := ⟨some 7, .alloc 39, 0, "l08_runs.go:248", #[], none⟩
def to5o18 : Oper := ⟨none, .store 39 (.tmp 7) (.tmp 30), 0, "l08_runs.go:248", #[⟨17, .data⟩, ⟨16, .data⟩, ⟨15, .chain⟩, ⟨0, .phase⟩, ⟨1, .phase⟩, ⟨2, .phase⟩, ⟨3, .phase⟩, ⟨4, .phase⟩, ⟨5, .phase⟩, ⟨6, .phase⟩, ⟨7, .phase⟩, ⟨8, .phase⟩, ⟨9, .phase⟩, ⟨10, .phase⟩, ⟨11, .phase⟩, ⟨12, .phase⟩, ⟨13, .phase⟩, ⟨14, .phase⟩, ⟨15, .phase⟩, ⟨16, .phase⟩, ⟨17, .phase⟩], none⟩
def to5O : Array Oper := #[to5o0, to5o1, to5o2, to5o3, to5o4, to5o5, to5o6, to5o7, to5o8, to5o9, to5o10, to5o11, to5o12, to5o13, to5o14, to5o15, to5o16, to5o17, to5o18]
structure to5P where
 (W0 W1 : World)
 (c : Nat)
 (a : Option Addr)
 (len cap p : Nat)
 (s1 s2 s3 s4 s5 s6 s7 s8 s9 s10 s11 s12 s13 s14 s15 s16 s17 s18 s19 s20 s21 s22 s23 s24 s25 s26 s27 s28 s29 s30 s31 s32 s33 s34 s35 s36 s37 s38 s39 s40 s41 s42 s43 s44 s45 s46 s47 s48 s49 s50 s51 s52 s53 s54 s55 s56 s57 s58 s59 s60 s61 s62 : Value)
def to5T (P : to5P) (XT : Nat) (XS : Nat) (XB : Nat) (R2 : Nat) (kd : Int) (R7 : Nat) (ky : ByteArray) (wd : ByteArray) (R13 : Nat) (R15 : Nat) (pp : Nat) (b0 b1 b2 b3 b4 b5 b6 b7 b8 b9 b10 b11 b12 b13 b14 b15 b16 b17 b18 : Bool) : Array Value := #[.pointer (some ⟨P.c, 0, none⟩), P.s1, P.s2, P.s3, P.s4, P.s5, P.s6, sel b17 (.pointer (some ⟨XB, 0, none⟩)) (P.s7), P.s8, P.s9, P.s10, P.s11, P.s12, P.s13, sel b0 (.slice (some ⟨XT, 0, none⟩) 9 9) (P.s14), sel b1 (.pointer (some ⟨P.c, 0, none⟩)) (P.s15), sel b2 (.int .i64 (R2 : Int)) (P.s16), sel b3 (.pointer (some ⟨XT, R2, none⟩)) (P.s17), sel b4 (.int .i64 kd) (P.s18), sel b5 (.slice (some ⟨XS, 0, none⟩) 4 4) (P.s19), sel b6 (.pointer (some ⟨P.c, 0, none⟩)) (P.s20), sel b7 (.int .i64 (R7 : Int)) (P.s21), sel b8 (.pointer (some ⟨XS, R7, none⟩)) (P.s22), sel b9 (.string ky) (P.s23), sel b10 (.pointer (some ⟨P.c, 0, none⟩)) (P.s24), sel b11 (.string wd) (P.s25), sel b12 (.pointer (some ⟨P.c, 0, none⟩)) (P.s26), sel b13 (.int .i64 (R13 : Int)) (P.s27), sel b14 (.pointer (some ⟨P.c, 0, none⟩)) (P.s28), sel b15 (.int .i64 (R15 : Int)) (P.s29), sel b16 (.agg #[.int .i64 kd, .string ky, .string wd, .int .i64 (R13 : Int), .string ⟨#[]⟩, .int .i64 (R15 : Int)]) (P.s30), P.s31, P.s32, P.s33, P.s34, P.s35, P.s36, P.s37, P.s38, P.s39, P.s40, P.s41, P.s42, P.s43, P.s44, P.s45, P.s46, P.s47, P.s48, P.s49, P.s50, P.s51, P.s52, P.s53, P.s54, P.s55, P.s56, P.s57, P.s58, P.s59, P.s60, P.s61, P.s62]
def to5F (P : to5P) (XT : Nat) (XS : Nat) (XB : Nat) (R2 : Nat) (kd : Int) (R7 : Nat) (ky : ByteArray) (wd : ByteArray) (R13 : Nat) (R15 : Nat) (pp : Nat) (b0 b1 b2 b3 b4 b5 b6 b7 b8 b9 b10 b11 b12 b13 b14 b15 b16 b17 b18 : Bool) (w : World) : Prop := (Src P.W0 w P.c P.a P.len P.cap pp) ∧ (pp ≤ P.p + 40 * (b2.toNat + b7.toNat + b11.toNat + b13.toNat + b15.toNat)) ∧ (P.W1.grownBy w (some P.c)) ∧ (P.c < P.W1.heap.size) ∧ (b0 = true → RA w XT 2 #[.int .i64 1, .int .i64 1, .int .i64 1, .int .i64 2, .int .i64 3, .int .i64 4, .int .i64 5, .int .i64 5, .int .i64 6] ∧ P.W1.heap.size ≤ XT) ∧ (b5 = true → RA w XS 9 #[.string ⟨#[97]⟩, .string ⟨#[98]⟩, .string ⟨#[99]⟩, .string ⟨#[100]⟩] ∧ P.W1.heap.size ≤ XS) ∧ (b2 = true → R2 < 9) ∧ (b7 = true → R7 < 4) ∧ (b17 = true → P.W1.heap.size ≤ XB ∧ RA w XB 39 (cond b18 #[.int .i64 kd, .string ky, .string wd, .int .i64 (R13 : Int), .string ⟨#[]⟩, .int .i64 (R15 : Int)] #[.int .i64 0, .string ⟨#[]⟩, .string ⟨#[]⟩, .int .i64 0, .string ⟨#[]⟩, .int .i64 0])) ∧ (P.p ≤ 900000) ∧ (b9 = true → ky.size ≤ 1) ∧ (b13 = true → R13 < 12)
def to5I (P : to5P) (l : Array Bool) (f : Act) (w : World) : Prop :=
 ∃ (b0 b1 b2 b3 b4 b5 b6 b7 b8 b9 b10 b11 b12 b13 b14 b15 b16 b17 b18 : Bool) (XT : Nat) (XS : Nat) (XB : Nat) (R2 : Nat) (kd : Int) (R7 : Nat) (ky : ByteArray) (wd : ByteArray) (R13 : Nat) (R15 : Nat) (pp : Nat), l = #[b0, b1, b2, b3, b4, b5, b6, b7, b8, b9, b10, b11, b12, b13, b14, b15, b16, b17, b18] ∧ f = { tmps := to5T P XT XS XB R2 kd R7 ky wd R13 R15 pp b0 b1 b2 b3 b4 b5 b6 b7 b8 b9 b10 b11 b12 b13 b14 b15 b16 b17 b18, defers := [] } ∧ to5F P XT XS XB R2 kd R7 ky wd R13 R15 pp b0 b1 b2 b3 b4 b5 b6 b7 b8 b9 b10 b11 b12 b13 b14 b15 b16 b17 b18 w
theorem to5M {P : to5P} {b0 b1 b2 b3 b4 b5 b6 b7 b8 b9 b10 b11 b12 b13 b14 b15 b16 b17 b18 : Bool} (XT : Nat) (XS : Nat) (XB : Nat) (R2 : Nat) (kd : Int) (R7 : Nat) (ky : ByteArray) (wd : ByteArray) (R13 : Nat) (R15 : Nat) (pp : Nat) {l : Array Bool} {f : Act} {w : World} (hl : l = #[b0, b1, b2, b3, b4, b5, b6, b7, b8, b9, b10, b11, b12, b13, b14, b15, b16, b17, b18]) (hf : f = { tmps := to5T P XT XS XB R2 kd R7 ky wd R13 R15 pp b0 b1 b2 b3 b4 b5 b6 b7 b8 b9 b10 b11 b12 b13 b14 b15 b16 b17 b18, defers := [] }) (h : to5F P XT XS XB R2 kd R7 ky wd R13 R15 pp b0 b1 b2 b3 b4 b5 b6 b7 b8 b9 b10 b11 b12 b13 b14 b15 b16 b17 b18 w) : to5I P l f w := ⟨b0, b1, b2, b3, b4, b5, b6, b7, b8, b9, b10, b11, b12, b13, b14, b15, b16, b17, b18, XT, XS, XB, R2, kd, R7, ky, wd, R13, R15, pp, hl, hf, h⟩
set_option maxRecDepth 20000 in
set_option maxHeartbeats 20000000 in
theorem to5_step {Q : Exit → Act → World → Prop} (P : to5P) (l : Array Bool) (f : Act) (w : World) (hC : Closed to5O l) (hI : to5I P l f w) (i : Nat) (h0 : l.getD i true = false) (o : Oper) (ho : to5O[i]? = some o) (h1 : ∀ e ∈ o.after, Region.binds .any e = true → l.getD e.on false = true) : wpOp Tryz.prog to5O Q i (to5I P (l.setIfInBounds i true)) f w := by
 obtain ⟨b0, b1, b2, b3, b4, b5, b6, b7, b8, b9, b10, b11, b12, b13, b14, b15, b16, b17, b18, XT, XS, XB, R2, kd, R7, ky, wd, R13, R15, pp, rfl, rfl, hF⟩ := hI
 have hi : i < 19 := by
  rcases Nat.lt_or_ge i 19 with h | h
  · exact h
  · rw [show to5O[i]? = none from Array.getElem?_eq_none h] at ho; cases ho
 rcases (by omega : i = 0 ∨ i = 1 ∨ i = 2 ∨ i = 3 ∨ i = 4 ∨ i = 5 ∨ i = 6 ∨ i = 7 ∨ i = 8 ∨ i = 9 ∨ i = 10 ∨ i = 11 ∨ i = 12 ∨ i = 13 ∨ i = 14 ∨ i = 15 ∨ i = 16 ∨ i = 17 ∨ i = 18) with rfl | rfl | rfl | rfl | rfl | rfl | rfl | rfl | rfl | rfl | rfl | rfl | rfl | rfl | rfl | rfl | rfl | rfl | rfl
 · obtain rfl : to5o0 = o := Option.some.inj ho
   obtain rfl : b0 = false := h0
   have hn := wN9 hC (i := 0) rfl [(3, 0), (4, 3), (16, 4), (18, 0)] [] nk rfl; repeat (obtain ⟨rfl, hn⟩ := hn)
   obtain ⟨hS, hp, hg, hc, ht, hu, hr2, hr7, hb, hk, hkz, hr13⟩ := hF; refine wpOp_step (o := to5o0) rfl (fun K hK => ?_); replace hK := hid hK; simp only [to5o0, to5T, sel_f]
   go_simp
   exact hK.out _ _ (to5M w.heap.size XS XB R2 kd R7 ky wd R13 R15 pp rfl rfl ⟨hS.alloc _, hp, grown_al hg _, hc, fun _ => ⟨RA.new w _ _, hg.size⟩, fun h => ⟨(hu h).1.alloc _, (hu h).2⟩, hr2, hr7, fun h => ⟨(hb h).1, (hb h).2.alloc _⟩, hk, hkz, hr13⟩)
 · obtain rfl : to5o1 = o := Option.some.inj ho
   obtain rfl : b1 = false := h0
   have hn := wN9 hC (i := 1) rfl [(2, 1), (3, 2), (4, 3), (7, 2), (8, 7), (9, 8), (11, 7), (13, 11), (15, 13), (16, 4), (18, 1)] [] nk rfl; repeat (obtain ⟨rfl, hn⟩ := hn)
   obtain ⟨hS, hp, hg, hc, ht, hu, hr2, hr7, hb, hk, hkz, hr13⟩ := hF; simp only [Bool.toNat_false] at hp; refine wpOp_step (o := to5o1) rfl (fun K hK => ?_); replace hK := hid hK; simp only [to5o1, to5T, sel_f]
   go_simp
   exact hK.out _ _ (to5M XT XS XB R2 kd R7 ky wd R13 R15 pp rfl rfl ⟨hS, hp, hg, hc, ht, hu, hr2, hr7, hb, hk, hkz, hr13⟩)
 · obtain rfl : to5o2 = o := Option.some.inj ho
   obtain rfl : b2 = false := h0
   have hn := wP9 (o := to5o2) hC h1 [(1, none)] [] nk rfl; repeat (obtain ⟨rfl, hn⟩ := hn)
   have hn := wN9 hC (i := 2) rfl [(3, 2), (4, 3), (7, 2), (8, 7), (9, 8), (11, 7), (13, 11), (15, 13), (16, 4), (18, 2)] [] nk rfl; repeat (obtain ⟨rfl, hn⟩ := hn)
   obtain ⟨hS, hp, hg, hc, ht, hu, hr2, hr7, hb, hk, hkz, hr13⟩ := hF; simp only [Bool.toNat_false] at hp; refine wpOp_step (o := to5o2) rfl (fun K hK => ?_); replace hK := hid hK; simp only [to5o2, to5T, sel_t, sel_f]
   go_simp
   refine (n_all P.W0 _ P.c P.a P.len P.cap pp 9 hS (by omega) (by omega) (by omega)).mono ?_
   rintro e w2 ⟨⟨r, rfl, h20, h21⟩, hs2, hg2⟩
   obtain ⟨R, rfl⟩ := Int.eq_ofNat_of_zero_le h20; dsimp only; exact hK.out _ _ (to5M XT XS XB R kd R7 ky wd R13 R15 (pp + 1) rfl rfl ⟨hs2, by show pp + 1 ≤ P.p + 40 * (1 + 0 + 0 + 0 + 0); omega, grown_trans hg hg2, hc, fun h => ⟨rowF (ht h).1 hg2 (by have := (ht h).2; omega), (ht h).2⟩, fun h => ⟨rowF (hu h).1 hg2 (by have := (hu h).2; omega), (hu h).2⟩, fun _ => by omega, hr7, fun h => ⟨(hb h).1, rowF (hb h).2 hg2 (by have := (hb h).1; omega)⟩, hk, hkz, hr13⟩)
 · obtain rfl : to5o3 = o := Option.some.inj ho
   obtain rfl : b3 = false := h0
   have hn := wP9 (o := to5o3) hC h1 [(2, none), (0, none), (1, some 2)] [] nk rfl; repeat (obtain ⟨rfl, hn⟩ := hn)
   have hn := wN9 hC (i := 3) rfl [(4, 3), (16, 4), (18, 3)] [] nk rfl; repeat (obtain ⟨rfl, hn⟩ := hn)
   obtain ⟨hS, hp, hg, hc, ht, hu, hr2, hr7, hb, hk, hkz, hr13⟩ := hF; simp only [Bool.toNat_true] at hp; have r := hr2 rfl; have r0 : (R2 : Int) < 9 := by omega
   refine wpOp_step (o := to5o3) rfl (fun K hK => ?_); replace hK := hid hK; simp only [to5o3, to5T, sel_t, sel_f]
   go_simp
   exact hK.out _ _ (to5M XT XS XB R2 kd R7 ky wd R13 R15 pp rfl rfl ⟨hS, hp, hg, hc, ht, hu, hr2, hr7, hb, hk, hkz, hr13⟩)
 · obtain rfl : to5o4 = o := Option.some.inj ho
   obtain rfl : b4 = false := h0
   have hn := wP9 (o := to5o4) hC h1 [(3, none), (0, some 3), (2, some 3), (1, some 2)] [] nk rfl; repeat (obtain ⟨rfl, hn⟩ := hn)
   have hn := wN9 hC (i := 4) rfl [(16, 4), (18, 4)] [] nk rfl; repeat (obtain ⟨rfl, hn⟩ := hn)
   obtain ⟨hS, hp, hg, hc, ht, hu, hr2, hr7, hb, hk, hkz, hr13⟩ := hF; simp only [Bool.toNat_true] at hp; obtain ⟨k2, hk2⟩ := kind9_at R2 (hr2 rfl); have c2 := ((ht rfl).1.cell R2).trans hk2; refine wpOp_step (o := to5o4) rfl (fun K hK => ?_); replace hK := hid hK; simp only [to5o4, to5T, sel_t, sel_f]
   go_simp
   exact hK.out _ _ (to5M XT XS XB R2 k2 R7 ky wd R13 R15 pp rfl rfl ⟨hS, hp, hg, hc, ht, hu, hr2, hr7, hb, hk, hkz, hr13⟩)
 · obtain rfl : to5o5 = o := Option.some.inj ho
   obtain rfl : b5 = false := h0
   have hn := wN9 hC (i := 5) rfl [(8, 5), (9, 8), (16, 9), (18, 5)] [] nk rfl; repeat (obtain ⟨rfl, hn⟩ := hn)
   obtain ⟨hS, hp, hg, hc, ht, hu, hr2, hr7, hb, hk, hkz, hr13⟩ := hF; refine wpOp_step (o := to5o5) rfl (fun K hK => ?_); replace hK := hid hK; simp only [to5o5, to5T, sel_f]
   go_simp
   exact hK.out _ _ (to5M XT w.heap.size XB R2 kd R7 ky wd R13 R15 pp rfl rfl ⟨hS.alloc _, hp, grown_al hg _, hc, fun h => ⟨(ht h).1.alloc _, (ht h).2⟩, fun _ => ⟨RA.new w _ _, hg.size⟩, hr2, hr7, fun h => ⟨(hb h).1, (hb h).2.alloc _⟩, hk, hkz, hr13⟩)
 · obtain rfl : to5o6 = o := Option.some.inj ho
   obtain rfl : b6 = false := h0
   have hn := wN9 hC (i := 6) rfl [(7, 6), (8, 7), (9, 8), (11, 7), (13, 11), (15, 13), (16, 9), (18, 6)] [] nk rfl; repeat (obtain ⟨rfl, hn⟩ := hn)
   obtain ⟨hS, hp, hg, hc, ht, hu, hr2, hr7, hb, hk, hkz, hr13⟩ := hF; simp only [Bool.toNat_false] at hp; refine wpOp_step (o := to5o6) rfl (fun K hK => ?_); replace hK := hid hK; simp only [to5o6, to5T, sel_f]
   go_simp
   exact hK.out _ _ (to5M XT XS XB R2 kd R7 ky wd R13 R15 pp rfl rfl ⟨hS, hp, hg, hc, ht, hu, hr2, hr7, hb, hk, hkz, hr13⟩)
 · obtain rfl : to5o7 = o := Option.some.inj ho
   obtain rfl : b7 = false := h0
   have hn := wP9 (o := to5o7) hC h1 [(6, none), (2, none), (1, some 2)] [] nk rfl; repeat (obtain ⟨rfl, hn⟩ := hn)
   have hn := wN9 hC (i := 7) rfl [(8, 7), (9, 8), (11, 7), (13, 11), (15, 13), (16, 9), (18, 7)] [] nk rfl; repeat (obtain ⟨rfl, hn⟩ := hn)
   obtain ⟨hS, hp, hg, hc, ht, hu, hr2, hr7, hb, hk, hkz, hr13⟩ := hF; simp only [Bool.toNat_true, Bool.toNat_false] at hp; refine wpOp_step (o := to5o7) rfl (fun K hK => ?_); replace hK := hid hK; simp only [to5o7, to5T, sel_t, sel_f]
   go_simp
   refine (n_all P.W0 _ P.c P.a P.len P.cap pp 4 hS (by omega) (by omega) (by omega)).mono ?_
   rintro e w2 ⟨⟨r, rfl, h20, h21⟩, hs2, hg2⟩
   obtain ⟨R, rfl⟩ := Int.eq_ofNat_of_zero_le h20; dsimp only; exact hK.out _ _ (to5M XT XS XB R2 kd R ky wd R13 R15 (pp + 1) rfl rfl ⟨hs2, by show pp + 1 ≤ P.p + 40 * (1 + 1 + 0 + 0 + 0); omega, grown_trans hg hg2, hc, fun h => ⟨rowF (ht h).1 hg2 (by have := (ht h).2; omega), (ht h).2⟩, fun h => ⟨rowF (hu h).1 hg2 (by have := (hu h).2; omega), (hu h).2⟩, hr2, fun _ => by omega, fun h => ⟨(hb h).1, rowF (hb h).2 hg2 (by have := (hb h).1; omega)⟩, hk, hkz, hr13⟩)
 · obtain rfl : to5o8 = o := Option.some.inj ho
   obtain rfl : b8 = false := h0
   have hn := wP9 (o := to5o8) hC h1 [(7, none), (5, none), (2, some 7), (6, some 7), (1, some 2)] [] nk rfl; repeat (obtain ⟨rfl, hn⟩ := hn)
   have hn := wN9 hC (i := 8) rfl [(9, 8), (16, 9), (18, 8)] [] nk rfl; repeat (obtain ⟨rfl, hn⟩ := hn)
   obtain ⟨hS, hp, hg, hc, ht, hu, hr2, hr7, hb, hk, hkz, hr13⟩ := hF; simp only [Bool.toNat_true] at hp; have r := hr7 rfl; have r0 : (R7 : Int) < 4 := by omega
   refine wpOp_step (o := to5o8) rfl (fun K hK => ?_); replace hK := hid hK; simp only [to5o8, to5T, sel_t, sel_f]
   go_simp
   exact hK.out _ _ (to5M XT XS XB R2 kd R7 ky wd R13 R15 pp rfl rfl ⟨hS, hp, hg, hc, ht, hu, hr2, hr7, hb, hk, hkz, hr13⟩)
 · obtain rfl : to5o9 = o := Option.some.inj ho
   obtain rfl : b9 = false := h0
   have hn := wP9 (o := to5o9) hC h1 [(8, none), (5, some 8), (7, some 8), (2, some 7), (6, some 7), (1, some 2)] [] nk rfl; repeat (obtain ⟨rfl, hn⟩ := hn)
   have hn := wN9 hC (i := 9) rfl [(16, 9), (18, 9)] [] nk rfl; repeat (obtain ⟨rfl, hn⟩ := hn)
   obtain ⟨hS, hp, hg, hc, ht, hu, hr2, hr7, hb, hk, hkz, hr13⟩ := hF; simp only [Bool.toNat_true] at hp; obtain ⟨k2, hk2, hk3⟩ := key4_at R7 (hr7 rfl); have c2 := ((hu rfl).1.cell R7).trans hk2; refine wpOp_step (o := to5o9) rfl (fun K hK => ?_); replace hK := hid hK; simp only [to5o9, to5T, sel_t, sel_f]
   go_simp
   exact hK.out _ _ (to5M XT XS XB R2 kd R7 k2 wd R13 R15 pp rfl rfl ⟨hS, hp, hg, hc, ht, hu, hr2, hr7, hb, hk, fun _ => hk3, hr13⟩)
 · obtain rfl : to5o10 = o := Option.some.inj ho
   obtain rfl : b10 = false := h0
   have hn := wN9 hC (i := 10) rfl [(11, 10), (13, 11), (15, 13), (16, 11), (18, 10)] [] nk rfl; repeat (obtain ⟨rfl, hn⟩ := hn)
   obtain ⟨hS, hp, hg, hc, ht, hu, hr2, hr7, hb, hk, hkz, hr13⟩ := hF; simp only [Bool.toNat_false] at hp; refine wpOp_step (o := to5o10) rfl (fun K hK => ?_); replace hK := hid hK; simp only [to5o10, to5T, sel_f]
   go_simp
   exact hK.out _ _ (to5M XT XS XB R2 kd R7 ky wd R13 R15 pp rfl rfl ⟨hS, hp, hg, hc, ht, hu, hr2, hr7, hb, hk, hkz, hr13⟩)
 · obtain rfl : to5o11 = o := Option.some.inj ho
   obtain rfl : b11 = false := h0
   have hn := wP9 (o := to5o11) hC h1 [(10, none), (7, none), (2, some 7), (6, some 7), (1, some 2)] [] nk rfl; repeat (obtain ⟨rfl, hn⟩ := hn)
   have hn := wN9 hC (i := 11) rfl [(13, 11), (15, 13), (16, 11), (18, 11)] [] nk rfl; repeat (obtain ⟨rfl, hn⟩ := hn)
   obtain ⟨hS, hp, hg, hc, ht, hu, hr2, hr7, hb, hk, hkz, hr13⟩ := hF; simp only [Bool.toNat_true, Bool.toNat_false] at hp; refine wpOp_step (o := to5o11) rfl (fun K hK => ?_); replace hK := hid hK; simp only [to5o11, to5T, sel_t, sel_f]
   go_simp
   refine (word_all P.W0 _ P.c P.a P.len P.cap pp hS (by omega)).mono ?_
   rintro e w2 ⟨⟨wd2, rfl, hwd2⟩, ⟨p3, hs2, hp3⟩, hg2⟩
   dsimp only; exact hK.out _ _ (to5M XT XS XB R2 kd R7 ky wd2 R13 R15 p3 rfl rfl ⟨hs2, by show p3 ≤ P.p + 40 * (1 + 1 + 1 + 0 + 0); omega, grown_trans hg hg2, hc, fun h => ⟨rowF (ht h).1 hg2 (by have := (ht h).2; omega), (ht h).2⟩, fun h => ⟨rowF (hu h).1 hg2 (by have := (hu h).2; omega), (hu h).2⟩, hr2, hr7, fun h => ⟨(hb h).1, rowF (hb h).2 hg2 (by have := (hb h).1; omega)⟩, hk, hkz, hr13⟩)
 · obtain rfl : to5o12 = o := Option.some.inj ho
   obtain rfl : b12 = false := h0
   have hn := wN9 hC (i := 12) rfl [(13, 12), (15, 13), (16, 13), (18, 12)] [] nk rfl; repeat (obtain ⟨rfl, hn⟩ := hn)
   obtain ⟨hS, hp, hg, hc, ht, hu, hr2, hr7, hb, hk, hkz, hr13⟩ := hF; simp only [Bool.toNat_false] at hp; refine wpOp_step (o := to5o12) rfl (fun K hK => ?_); replace hK := hid hK; simp only [to5o12, to5T, sel_f]
   go_simp
   exact hK.out _ _ (to5M XT XS XB R2 kd R7 ky wd R13 R15 pp rfl rfl ⟨hS, hp, hg, hc, ht, hu, hr2, hr7, hb, hk, hkz, hr13⟩)
 · obtain rfl : to5o13 = o := Option.some.inj ho
   obtain rfl : b13 = false := h0
   have hn := wP9 (o := to5o13) hC h1 [(12, none), (11, none), (7, some 11), (10, some 11), (2, some 7), (6, some 7), (1, some 2)] [] nk rfl; repeat (obtain ⟨rfl, hn⟩ := hn)
   have hn := wN9 hC (i := 13) rfl [(15, 13), (16, 13), (18, 13)] [] nk rfl; repeat (obtain ⟨rfl, hn⟩ := hn)
   obtain ⟨hS, hp, hg, hc, ht, hu, hr2, hr7, hb, hk, hkz, hr13⟩ := hF; simp only [Bool.toNat_true, Bool.toNat_false] at hp; refine wpOp_step (o := to5o13) rfl (fun K hK => ?_); replace hK := hid hK; simp only [to5o13, to5T, sel_t, sel_f]
   go_simp
   refine (n_all P.W0 _ P.c P.a P.len P.cap pp 12 hS (by omega) (by omega) (by omega)).mono ?_
   rintro e w2 ⟨⟨r, rfl, h20, h21⟩, hs2, hg2⟩
   obtain ⟨R, rfl⟩ := Int.eq_ofNat_of_zero_le h20; dsimp only; exact hK.out _ _ (to5M XT XS XB R2 kd R7 ky wd R R15 (pp + 1) rfl rfl ⟨hs2, by show pp + 1 ≤ P.p + 40 * (1 + 1 + 1 + 1 + 0); omega, grown_trans hg hg2, hc, fun h => ⟨rowF (ht h).1 hg2 (by have := (ht h).2; omega), (ht h).2⟩, fun h => ⟨rowF (hu h).1 hg2 (by have := (hu h).2; omega), (hu h).2⟩, hr2, hr7, fun h => ⟨(hb h).1, rowF (hb h).2 hg2 (by have := (hb h).1; omega)⟩, hk, hkz, fun _ => by omega⟩)
 · obtain rfl : to5o14 = o := Option.some.inj ho
   obtain rfl : b14 = false := h0
   have hn := wN9 hC (i := 14) rfl [(15, 14), (16, 15), (18, 14)] [] nk rfl; repeat (obtain ⟨rfl, hn⟩ := hn)
   obtain ⟨hS, hp, hg, hc, ht, hu, hr2, hr7, hb, hk, hkz, hr13⟩ := hF; simp only [Bool.toNat_false] at hp; refine wpOp_step (o := to5o14) rfl (fun K hK => ?_); replace hK := hid hK; simp only [to5o14, to5T, sel_f]
   go_simp
   exact hK.out _ _ (to5M XT XS XB R2 kd R7 ky wd R13 R15 pp rfl rfl ⟨hS, hp, hg, hc, ht, hu, hr2, hr7, hb, hk, hkz, hr13⟩)
 · obtain rfl : to5o15 = o := Option.some.inj ho
   obtain rfl : b15 = false := h0
   have hn := wP9 (o := to5o15) hC h1 [(14, none), (13, none), (11, some 13), (12, some 13), (7, some 11), (10, some 11), (2, some 7), (6, some 7), (1, some 2)] [] nk rfl; repeat (obtain ⟨rfl, hn⟩ := hn)
   have hn := wN9 hC (i := 15) rfl [(16, 15), (18, 15)] [] nk rfl; repeat (obtain ⟨rfl, hn⟩ := hn)
   obtain ⟨hS, hp, hg, hc, ht, hu, hr2, hr7, hb, hk, hkz, hr13⟩ := hF; simp only [Bool.toNat_true, Bool.toNat_false] at hp; refine wpOp_step (o := to5o15) rfl (fun K hK => ?_); replace hK := hid hK; simp only [to5o15, to5T, sel_t, sel_f]
   go_simp
   refine (n_all P.W0 _ P.c P.a P.len P.cap pp 5 hS (by omega) (by omega) (by omega)).mono ?_
   rintro e w2 ⟨⟨r, rfl, h20, h21⟩, hs2, hg2⟩
   obtain ⟨R, rfl⟩ := Int.eq_ofNat_of_zero_le h20; dsimp only; exact hK.out _ _ (to5M XT XS XB R2 kd R7 ky wd R13 R (pp + 1) rfl rfl ⟨hs2, by show pp + 1 ≤ P.p + 40 * (1 + 1 + 1 + 1 + 1); omega, grown_trans hg hg2, hc, fun h => ⟨rowF (ht h).1 hg2 (by have := (ht h).2; omega), (ht h).2⟩, fun h => ⟨rowF (hu h).1 hg2 (by have := (hu h).2; omega), (hu h).2⟩, hr2, hr7, fun h => ⟨(hb h).1, rowF (hb h).2 hg2 (by have := (hb h).1; omega)⟩, hk, hkz, hr13⟩)
 · obtain rfl : to5o16 = o := Option.some.inj ho
   obtain rfl : b16 = false := h0
   have hn := wP9 (o := to5o16) hC h1 [(15, none), (13, none), (11, none), (9, none), (4, none), (14, some 15), (12, some 13), (7, some 11), (10, some 11), (8, some 9), (5, some 8), (2, some 7), (6, some 7), (3, some 4), (0, some 3), (1, some 2)] [] nk rfl; repeat (obtain ⟨rfl, hn⟩ := hn)
   have hn := wN9 hC (i := 16) rfl [(18, 16)] [] nk rfl; repeat (obtain ⟨rfl, hn⟩ := hn)
   obtain ⟨hS, hp, hg, hc, ht, hu, hr2, hr7, hb, hk, hkz, hr13⟩ := hF; simp only [Bool.toNat_true] at hp; refine wpOp_step (o := to5o16) rfl (fun K hK => ?_); replace hK := hid hK; simp only [to5o16, to5T, sel_t, sel_f]
   go_simp
   exact hK.out _ _ (to5M XT XS XB R2 kd R7 ky wd R13 R15 pp rfl rfl ⟨hS, hp, hg, hc, ht, hu, hr2, hr7, hb, hk, hkz, hr13⟩)
 · obtain rfl : to5o17 = o := Option.some.inj ho
   obtain rfl : b17 = false := h0
   have hn := wN9 hC (i := 17) rfl [(18, 17)] [] nk rfl; repeat (obtain ⟨rfl, hn⟩ := hn)
   obtain ⟨hS, hp, hg, hc, ht, hu, hr2, hr7, hb, hk, hkz, hr13⟩ := hF; refine wpOp_step (o := to5o17) rfl (fun K hK => ?_); replace hK := hid hK; simp only [to5o17, to5T, sel_f]
   go_simp
   exact hK.out _ _ (to5M XT XS w.heap.size R2 kd R7 ky wd R13 R15 pp rfl rfl ⟨hS.alloc _, hp, grown_al hg _, hc, fun h => ⟨(ht h).1.alloc _, (ht h).2⟩, fun h => ⟨(hu h).1.alloc _, (hu h).2⟩, hr2, hr7, fun _ => ⟨hg.size, RA.new w _ _⟩, hk, hkz, hr13⟩)
 · obtain rfl : to5o18 = o := Option.some.inj ho
   obtain rfl : b18 = false := h0
   have hn := wP9 (o := to5o18) hC h1 [(17, none), (16, none), (15, none), (14, none), (13, none), (12, none), (11, none), (10, none), (9, none), (8, none), (7, none), (6, none), (5, none), (4, none), (3, none), (2, none), (1, none), (0, none)] [] nk rfl; repeat (obtain ⟨rfl, hn⟩ := hn)
   obtain ⟨hS, hp, hg, hc, ht, hu, hr2, hr7, hb, hk, hkz, hr13⟩ := hF; simp only [Bool.toNat_true] at hp; have RB : RA w XB 39 #[.int .i64 0, .string ⟨#[]⟩, .string ⟨#[]⟩, .int .i64 0, .string ⟨#[]⟩, .int .i64 0] := (hb rfl).2; have XL := (hb rfl).1; have hcx : P.c < XB := by omega
   have hne := rowNeT (ht rfl).1 RB (by decide); have hnu := rowNeT (hu rfl).1 RB (by decide); have q0 := RB.cell 0; have q1 := RB.cell 1; have q2 := RB.cell 2; have q3 := RB.cell 3; have q4 := RB.cell 4; have q5 := RB.cell 5; have f0 := RB.free 0; have f1 := RB.free 1; have f2 := RB.free 2; have f3 := RB.free 3; have f4 := RB.free 4; have f5 := RB.free 5; refine wpOp_step (o := to5o18) rfl (fun K hK => ?_); replace hK := hid hK; simp only [to5o18, to5T, sel_t]
   go_simp
   exact hK.out _ _ (to5M XT XS XB R2 kd R7 ky wd R13 R15 pp rfl rfl ⟨((((((hS.set hcx 0 _).set hcx 1 _).set hcx 2 _).set hcx 3 _).set hcx 4 _).set hcx 5 _), hp, (grown_far (grown_far (grown_far (grown_far (grown_far (grown_far hg XL 0 _) XL 1 _) XL 2 _) XL 3 _) XL 4 _) XL 5 _), hc, fun _ => ⟨(((((((ht rfl).1.other ⟨XB, 0, none⟩ _ hne).other ⟨XB, 1, none⟩ _ hne).other ⟨XB, 2, none⟩ _ hne).other ⟨XB, 3, none⟩ _ hne).other ⟨XB, 4, none⟩ _ hne).other ⟨XB, 5, none⟩ _ hne), (ht rfl).2⟩, fun _ => ⟨(((((((hu rfl).1.other ⟨XB, 0, none⟩ _ hnu).other ⟨XB, 1, none⟩ _ hnu).other ⟨XB, 2, none⟩ _ hnu).other ⟨XB, 3, none⟩ _ hnu).other ⟨XB, 4, none⟩ _ hnu).other ⟨XB, 5, none⟩ _ hnu), (hu rfl).2⟩, hr2, hr7, fun _ => ⟨XL, ((((((RB.set 0 _).set 1 _).set 2 _).set 3 _).set 4 _).set 5 _)⟩, hk, hkz, hr13⟩)
set_option maxRecDepth 20000 in
set_option maxHeartbeats 4000000 in
theorem to5_wp {Q : Exit → Act → World → Prop} {rid : Nat} (W0 W1 : World) (c : Nat) (a : Option Addr) (len cap p : Nat) {s1 s2 s3 s4 s5 s6 s7 s8 s9 s10 s11 s12 s13 s14 s15 s16 s17 s18 s19 s20 s21 s22 s23 s24 s25 s26 s27 s28 s29 s30 s31 s32 s33 s34 s35 s36 s37 s38 s39 s40 s41 s42 s43 s44 s45 s46 s47 s48 s49 s50 s51 s52 s53 s54 s55 s56 s57 s58 s59 s60 s61 s62 : Value} (w : World) (hS : Src W0 w c a len cap p) (hg : W1.grownBy w (some c)) (hc : c < W1.heap.size) (hk : p ≤ 900000)
 (fin : ∀ (XT : Nat) (XS : Nat) (XB : Nat) (R2 : Nat) (kd : Int) (R7 : Nat) (ky : ByteArray) (wd : ByteArray) (R13 : Nat) (R15 : Nat) (pp : Nat) (w' : World), (Src W0 w' c a len cap pp) → (pp ≤ p + 40 * (1 + 1 + 1 + 1 + 1)) → (W1.grownBy w' (some c)) → (c < W1.heap.size) → (RA w' XT 2 #[.int .i64 1, .int .i64 1, .int .i64 1, .int .i64 2, .int .i64 3, .int .i64 4, .int .i64 5, .int .i64 5, .int .i64 6] ∧ W1.heap.size ≤ XT) → (RA w' XS 9 #[.string ⟨#[97]⟩, .string ⟨#[98]⟩, .string ⟨#[99]⟩, .string ⟨#[100]⟩] ∧ W1.heap.size ≤ XS) → (R2 < 9) → (R7 < 4) → (W1.heap.size ≤ XB ∧ RA w' XB 39 (cond true #[.int .i64 kd, .string ky, .string wd, .int .i64 (R13 : Int), .string ⟨#[]⟩, .int .i64 (R15 : Int)] #[.int .i64 0, .string ⟨#[]⟩, .string ⟨#[]⟩, .int .i64 0, .string ⟨#[]⟩, .int .i64 0])) → (p ≤ 900000) → (ky.size ≤ 1) → (R13 < 12) → Q .normal { tmps := #[.pointer (some ⟨c, 0, none⟩), s1, s2, s3, s4, s5, s6, .pointer (some ⟨XB, 0, none⟩), s8, s9, s10, s11, s12, s13, .slice (some ⟨XT, 0, none⟩) 9 9, .pointer (some ⟨c, 0, none⟩), .int .i64 (R2 : Int), .pointer (some ⟨XT, R2, none⟩), .int .i64 kd, .slice (some ⟨XS, 0, none⟩) 4 4, .pointer (some ⟨c, 0, none⟩), .int .i64 (R7 : Int), .pointer (some ⟨XS, R7, none⟩), .string ky, .pointer (some ⟨c, 0, none⟩), .string wd, .pointer (some ⟨c, 0, none⟩), .int .i64 (R13 : Int), .pointer (some ⟨c, 0, none⟩), .int .i64 (R15 : Int), .agg #[.int .i64 kd, .string ky, .string wd, .int .i64 (R13 : Int), .string ⟨#[]⟩, .int .i64 (R15 : Int)], s31, s32, s33, s34, s35, s36, s37, s38, s39, s40, s41, s42, s43, s44, s45, s46, s47, s48, s49, s50, s51, s52, s53, s54, s55, s56, s57, s58, s59, s60, s61, s62], defers := [] } w') :
 (Code.region rid to5O true).wp Tryz.prog Q { tmps := #[.pointer (some ⟨c, 0, none⟩), s1, s2, s3, s4, s5, s6, s7, s8, s9, s10, s11, s12, s13, s14, s15, s16, s17, s18, s19, s20, s21, s22, s23, s24, s25, s26, s27, s28, s29, s30, s31, s32, s33, s34, s35, s36, s37, s38, s39, s40, s41, s42, s43, s44, s45, s46, s47, s48, s49, s50, s51, s52, s53, s54, s55, s56, s57, s58, s59, s60, s61, s62], defers := [] } w := by
 refine wp_region_inv (ops := to5O) (to5I ⟨W0, W1, c, a, len, cap, p, s1, s2, s3, s4, s5, s6, s7, s8, s9, s10, s11, s12, s13, s14, s15, s16, s17, s18, s19, s20, s21, s22, s23, s24, s25, s26, s27, s28, s29, s30, s31, s32, s33, s34, s35, s36, s37, s38, s39, s40, s41, s42, s43, s44, s45, s46, s47, s48, s49, s50, s51, s52, s53, s54, s55, s56, s57, s58, s59, s60, s61, s62⟩) (by kernel_rfl) (by kernel_rfl) (fun l f v hI => ?_) (fun l f v hC hI i h0 o ho h1 => to5_step ⟨W0, W1, c, a, len, cap, p, s1, s2, s3, s4, s5, s6, s7, s8, s9, s10, s11, s12, s13, s14, s15, s16, s17, s18, s19, s20, s21, s22, s23, s24, s25, s26, s27, s28, s29, s30, s31, s32, s33, s34, s35, s36, s37, s38, s39, s40, s41, s42, s43, s44, s45, s46, s47, s48, s49, s50, s51, s52, s53, s54, s55, s56, s57, s58, s59, s60, s61, s62⟩ l f v hC hI i h0 o ho h1) (fun l f v hI hall => ?_) ?_
 · obtain ⟨_, _, _, _, _, _, _, _, _, _, _, _, _, _, _, _, _, _, _, _, _, _, _, _, _, _, _, _, _, _, rfl, _⟩ := hI; rfl
 · obtain ⟨b0, b1, b2, b3, b4, b5, b6, b7, b8, b9, b10, b11, b12, b13, b14, b15, b16, b17, b18, XT, XS, XB, R2, kd, R7, ky, wd, R13, R15, pp, rfl, rfl, hS, hp, hg, hc, ht, hu, hr2, hr7, hb, hk, hkz, hr13⟩ := hI
   have hn := allT hall [0, 1, 2, 3, 4, 5, 6, 7, 8, 9, 10, 11, 12, 13, 14, 15, 16, 17, 18] rfl; repeat (obtain ⟨rfl, hn⟩ := hn)
   exact fin XT XS XB R2 kd R7 ky wd R13 R15 pp v hS hp hg hc (ht rfl) (hu rfl) (hr2 rfl) (hr7 rfl) (hb rfl) hk (hkz rfl) (hr13 rfl)
 · exact ⟨false, false, false, false, false, false, false, false, false, false, false, false, false, false, false, false, false, false, false, 0, 0, 0, 0, 0, 0, ⟨#[]⟩, ⟨#[]⟩, 0, 0, p, rfl, rfl, hS.drew, Nat.le_add_right _ _, grown_trans hg (grown_drewS _ _), hc, fun h => Bool.noConfusion h, fun h => Bool.noConfusion h, fun h => Bool.noConfusion h, fun h => Bool.noConfusion h, fun h => Bool.noConfusion h, hk, fun h => Bool.noConfusion h, fun h => Bool.noConfusion h⟩
end Go.Proofs.YtcbmgpdpjagaoaaGreat
namespace Go.Proofs.YtcbmgpdpjagaoaaGreat
open Go.RowKit
set_option linter.unusedVariables false
def ints9 (k : IntKind) (xs : List Int) : Array Value := (xs.map (Value.int k)).toArray
theorem made89 (n : Nat) : madeCells (Value.int .u8 0).cells (n * 1) = ints9 .u8 (List.replicate n 0) := by
 apply Array.ext
 · simp [madeCells, ints9]
 · intro i h1 h2
   simp [madeCells, ints9, Value.cells, Nat.mod_one]
theorem mk_bytes9 (w : World) (n : Nat) (hn : n ≤ 1048576) : (Instr.makeSlice 22 (.int .i64 n) (.int .i64 n)).run Tryz.prog w = .ok (.slice (some ⟨w.heap.size, 0, none⟩) n n) (w.alloc (.cells (ints9 .u8 (List.replicate n 0)) 5)) := by
 obtain ⟨i0, hi, hz0, hz1, hz2⟩ := info_parts Tryz.infoU8; have := run_make (P := Tryz.prog) w 22 5 i0 (.int .u8 0) Tryz.underlying22 hi hz0 .i64 .i64 n n (by omega) (Int.le_refl _) (by rw [hz2]; omega) (by omega); rw [this, hz1]; simp only [Int.toNat_natCast, made89]
theorem own_made9 (w : World) (n : Nat) (hn : n ≤ 1048576) : OwnNums (w.alloc (.cells (ints9 .u8 (List.replicate n 0)) 5)) w.heap.size 5 .u8 (.slice (some ⟨w.heap.size, 0, none⟩) n n) (List.replicate n 0) := by
 refine ⟨by simp, .inr ⟨w.heap.size, n, ints9 .u8 (List.replicate n 0), by simp, Nat.le_refl _, heap_alloc_new w _, by simp, by unfold maxLen; omega, by simp [ints9], ?_⟩⟩
 simp [ints9]
theorem OwnNums.mono9 {w : World} {base base' : Nat} {e : TypeId} {k : IntKind} {v : Value} {xs : List Int} (h : OwnNums w base e k v xs) (hb : base' ≤ base) : OwnNums w base' e k v xs := by
 refine ⟨h.1, ?_⟩
 rcases h.2 with h0 | ⟨g, cap, cur, h1, h2, h3⟩
 · exact Or.inl h0
 · exact Or.inr ⟨g, cap, cur, h1, Nat.le_trans hb h2, h3⟩
theorem OwnNums.far9 {w w' : World} {base c : Nat} {e : TypeId} {k : IntKind} {v : Value} {xs : List Int} (h : OwnNums w base e k v xs) (hg : w.grownBy w' (some c)) (hc : c < base) : OwnNums w' base e k v xs := by
 refine ⟨h.1, ?_⟩
 rcases h.2 with h0 | ⟨g, cap, cur, h1, h2, h3, h4⟩
 · exact Or.inl h0
 · refine Or.inr ⟨g, cap, cur, h1, h2, ?_, h4⟩
   rw [hg.block g (Array.getElem?_eq_some_iff.1 h3).1 (fun e => by cases e; omega)]; exact h3
theorem two_at (x : ByteArray) (k : Nat) (hk : k < 2) : ∃ y : ByteArray, (#[.string ⟨#[]⟩, .string x] : Array Value)[k]? = some (.string y) ∧ y.size ≤ x.size := by
 rcases (by omega : k = 0 ∨ k = 1) with rfl | rfl
 · exact ⟨_, rfl, Nat.zero_le _⟩
 · exact ⟨_, rfl, Nat.le_refl _⟩
def to9o0 : Oper := ⟨some 41, .move (.tmp 0), 50, "l08_runs.go:253", #[], none⟩
def to9o1 : Oper := ⟨some 42, .call { callee := .value (.func 21), args := #[.tmp 41, .const (.int .i64 3)], argTypes := #[50, 2] }, 2, "l08_runs.go:253", #[⟨0, .data⟩], none⟩
def to9o2 : Oper := ⟨some 43, .binOp .add 2 (.const (.int .i64 199)) (.tmp 42) 2, 2, "l08_runs.go:253", #[⟨1, .data⟩], none⟩
def to9o3 : Oper := ⟨some 44, .makeSlice 22 (.tmp 43) (.tmp 43), 22, "l08_runs.go:253", #[⟨2, .data⟩, ⟨2, .data⟩], none⟩
def to9o4 : Oper := ⟨some 45, .convert 22 9 (.tmp 44), 9, "l08_runs.go:253", #[⟨3, .data⟩], none⟩
def to9o5 : Oper := ⟨some 46, .buildSlice 44 2 #[(0, .const (.string { data := #[] })), (1, .tmp 45)], 44, "l08_runs.go:253", #[⟨4, .data⟩], none⟩
def to9o6 : Oper := ⟨some 47, .move (.tmp 0), 50, "l08_runs.go:253", #[], none⟩
def to9o7 : Oper := ⟨some 48, .call { callee := .value (.func 21), args := #[.tmp 47, .const (.int .i64 2)], argTypes := #[50, 2] }, 2, "l08_runs.go:253", #[⟨6, .data⟩, ⟨1, .chain⟩], none⟩
def to9o8 : Oper := ⟨some 49, .indexAddr 44 (.tmp 46) (.tmp 48), 0, "l08_runs.go:253", #[⟨5, .data⟩, ⟨7, .data⟩], none⟩
def to9o9 : Oper := ⟨some 50, .load 9 (.tmp 49), 9, "l08_runs.go:253", #[⟨8, .data⟩], none⟩
def to9o10 : Oper := ⟨some 51, .fieldAddr 39 (.tmp 7) 1, 0, "l08_runs.go:253", #[⟨0, .phase⟩, ⟨1, .phase⟩, ⟨2, .phase⟩, ⟨3, .phase⟩, ⟨4, .phase⟩, ⟨5, .phase⟩, ⟨6, .phase⟩, ⟨7, .phase⟩, ⟨8, .phase⟩, ⟨9, .phase⟩], none⟩
def to9o11 : Oper := ⟨none, .store 9 (.tmp 51) (.tmp 50), 0, "l08_runs.go:253", #[⟨10, .data⟩, ⟨9, .data⟩, ⟨7, .chain⟩, ⟨0, .phase⟩, ⟨1, .phase⟩, ⟨2, .phase⟩, ⟨3, .phase⟩, ⟨4, .phase⟩, ⟨5, .phase⟩, ⟨6, .phase⟩, ⟨7, .phase⟩, ⟨8, .phase⟩, ⟨9, .phase⟩], none⟩
def to9O : Array Oper := #[to9o0, to9o1, to9o2, to9o3, to9o4, to9o5, to9o6, to9o7, to9o8, to9o9, to9o10, to9o11]
structure to9P where
 (W0 W1 : World)
 (c : Nat)
 (a : Option Addr)
 (len cap p XB : Nat)
 (kd : Int)
 (wd : ByteArray)
 (q3 : Int)
 (til : ByteArray)
 (q5 : Int)
 (ky : ByteArray)
 (s1 s2 s3 s4 s5 s6 s8 s9 s10 s11 s12 s13 s14 s15 s16 s17 s18 s19 s20 s21 s22 s23 s24 s25 s26 s27 s28 s29 s30 s31 s32 s33 s34 s35 s36 s37 s38 s39 s40 s41 s42 s43 s44 s45 s46 s47 s48 s49 s50 s51 s52 s53 s54 s55 s56 s57 s58 s59 s60 s61 s62 : Value)
def to9T (P : to9P) (X3 : Nat) (X5 : Nat) (R1 : Nat) (x4 : ByteArray) (R7 : Nat) (kn : ByteArray) (pp : Nat) (b0 b1 b2 b3 b4 b5 b6 b7 b8 b9 b10 b11 : Bool) : Array Value := #[.pointer (some ⟨P.c, 0, none⟩), P.s1, P.s2, P.s3, P.s4, P.s5, P.s6, .pointer (some ⟨P.XB, 0, none⟩), P.s8, P.s9, P.s10, P.s11, P.s12, P.s13, P.s14, P.s15, P.s16, P.s17, P.s18, P.s19, P.s20, P.s21, P.s22, P.s23, P.s24, P.s25, P.s26, P.s27, P.s28, P.s29, P.s30, P.s31, P.s32, P.s33, P.s34, P.s35, P.s36, P.s37, P.s38, P.s39, P.s40, sel b0 (.pointer (some ⟨P.c, 0, none⟩)) (P.s41), sel b1 (.int .i64 (R1 : Int)) (P.s42), sel b2 (.int .i64 (199 + (R1 : Int))) (P.s43), sel b3 (.slice (some ⟨X3, 0, none⟩) (199 + R1) (199 + R1)) (P.s44), sel b4 (.string x4) (P.s45), sel b5 (.slice (some ⟨X5, 0, none⟩) 2 2) (P.s46), sel b6 (.pointer (some ⟨P.c, 0, none⟩)) (P.s47), sel b7 (.int .i64 (R7 : Int)) (P.s48), sel b8 (.pointer (some ⟨X5, R7, none⟩)) (P.s49), sel b9 (.string kn) (P.s50), sel b10 (.pointer (some ⟨P.XB, 1, none⟩)) (P.s51), P.s52, P.s53, P.s54, P.s55, P.s56, P.s57, P.s58, P.s59, P.s60, P.s61, P.s62]
def to9F (P : to9P) (X3 : Nat) (X5 : Nat) (R1 : Nat) (x4 : ByteArray) (R7 : Nat) (kn : ByteArray) (pp : Nat) (b0 b1 b2 b3 b4 b5 b6 b7 b8 b9 b10 b11 : Bool) (w : World) : Prop := (Src P.W0 w P.c P.a P.len P.cap pp) ∧ (pp ≤ P.p + 40 * (b1.toNat + b7.toNat)) ∧ (P.W1.grownBy w (some P.c)) ∧ (P.c < P.W1.heap.size ∧ P.W1.heap.size ≤ P.XB) ∧ (b3 = true → b11 = false → OwnNums w P.W1.heap.size 5 .u8 (.slice (some ⟨X3, 0, none⟩) (199 + R1) (199 + R1)) (List.replicate (199 + R1) 0)) ∧ (b5 = true → b11 = false → RA w X5 9 #[.string ⟨#[]⟩, .string x4] ∧ P.W1.heap.size ≤ X5) ∧ (b1 = true → R1 < 3) ∧ (b7 = true → R7 < 2) ∧ (RA w P.XB 39 (cond b11 #[.int .i64 P.kd, .string kn, .string P.wd, .int .i64 P.q3, .string P.til, .int .i64 P.q5] #[.int .i64 P.kd, .string P.ky, .string P.wd, .int .i64 P.q3, .string P.til, .int .i64 P.q5])) ∧ (P.p ≤ 900000) ∧ (b4 = true → x4.size ≤ 201) ∧ (b9 = true → kn.size ≤ 201)
def to9I (P : to9P) (l : Array Bool) (f : Act) (w : World) : Prop :=
 ∃ (b0 b1 b2 b3 b4 b5 b6 b7 b8 b9 b10 b11 : Bool) (X3 : Nat) (X5 : Nat) (R1 : Nat) (x4 : ByteArray) (R7 : Nat) (kn : ByteArray) (pp : Nat), l = #[b0, b1, b2, b3, b4, b5, b6, b7, b8, b9, b10, b11] ∧ f = { tmps := to9T P X3 X5 R1 x4 R7 kn pp b0 b1 b2 b3 b4 b5 b6 b7 b8 b9 b10 b11, defers := [] } ∧ to9F P X3 X5 R1 x4 R7 kn pp b0 b1 b2 b3 b4 b5 b6 b7 b8 b9 b10 b11 w
theorem to9M {P : to9P} {b0 b1 b2 b3 b4 b5 b6 b7 b8 b9 b10 b11 : Bool} (X3 : Nat) (X5 : Nat) (R1 : Nat) (x4 : ByteArray) (R7 : Nat) (kn : ByteArray) (pp : Nat) {l : Array Bool} {f : Act} {w : World} (hl : l = #[b0, b1, b2, b3, b4, b5, b6, b7, b8, b9, b10, b11]) (hf : f = { tmps := to9T P X3 X5 R1 x4 R7 kn pp b0 b1 b2 b3 b4 b5 b6 b7 b8 b9 b10 b11, defers := [] }) (h : to9F P X3 X5 R1 x4 R7 kn pp b0 b1 b2 b3 b4 b5 b6 b7 b8 b9 b10 b11 w) : to9I P l f w := ⟨b0, b1, b2, b3, b4, b5, b6, b7, b8, b9, b10, b11, X3, X5, R1, x4, R7, kn, pp, hl, hf, h⟩
set_option maxRecDepth 20000 in
set_option maxHeartbeats 20000000 in
theorem to9_step {Q : Exit → Act → World → Prop} (P : to9P) (l : Array Bool) (f : Act) (w : World) (hC : Closed to9O l) (hI : to9I P l f w) (i : Nat) (h0 : l.getD i true = false) (o : Oper) (ho : to9O[i]? = some o) (h1 : ∀ e ∈ o.after, Region.binds .any e = true → l.getD e.on false = true) : wpOp Tryz.prog to9O Q i (to9I P (l.setIfInBounds i true)) f w := by
 obtain ⟨b0, b1, b2, b3, b4, b5, b6, b7, b8, b9, b10, b11, X3, X5, R1, x4, R7, kn, pp, rfl, rfl, hF⟩ := hI
 have hi : i < 12 := by
  rcases Nat.lt_or_ge i 12 with h | h
  · exact h
  · rw [show to9O[i]? = none from Array.getElem?_eq_none h] at ho; cases ho
 rcases (by omega : i = 0 ∨ i = 1 ∨ i = 2 ∨ i = 3 ∨ i = 4 ∨ i = 5 ∨ i = 6 ∨ i = 7 ∨ i = 8 ∨ i = 9 ∨ i = 10 ∨ i = 11) with rfl | rfl | rfl | rfl | rfl | rfl | rfl | rfl | rfl | rfl | rfl | rfl
 · obtain rfl : to9o0 = o := Option.some.inj ho
   obtain rfl : b0 = false := h0
   have hn := wN9 hC (i := 0) rfl [(1, 0), (2, 1), (3, 2), (4, 3), (5, 4), (7, 1), (8, 5), (9, 8), (10, 0), (11, 0)] [] nk rfl; repeat (obtain ⟨rfl, hn⟩ := hn)
   obtain ⟨hS, hp, hg, hc, ht, hu, hr1, hr7, hb, hk, hx4z, hkz⟩ := hF; simp only [Bool.toNat_false] at hp; refine wpOp_step (o := to9o0) rfl (fun K hK => ?_); replace hK := hid hK; simp only [to9o0, to9T, sel_f]
   go_simp
   exact hK.out _ _ (to9M X3 X5 R1 x4 R7 kn pp rfl rfl ⟨hS, hp, hg, hc, ht, hu, hr1, hr7, hb, hk, hx4z, hkz⟩)
 · obtain rfl : to9o1 = o := Option.some.inj ho
   obtain rfl : b1 = false := h0
   have hn := wP9 (o := to9o1) hC h1 [(0, none)] [] nk rfl; repeat (obtain ⟨rfl, hn⟩ := hn)
   have hn := wN9 hC (i := 1) rfl [(2, 1), (3, 2), (4, 3), (5, 4), (7, 1), (8, 5), (9, 8), (10, 1), (11, 1)] [] nk rfl; repeat (obtain ⟨rfl, hn⟩ := hn)
   obtain ⟨hS, hp, hg, hc, ht, hu, hr1, hr7, hb, hk, hx4z, hkz⟩ := hF; simp only [Bool.toNat_false] at hp; refine wpOp_step (o := to9o1) rfl (fun K hK => ?_); replace hK := hid hK; simp only [to9o1, to9T, sel_t, sel_f]
   go_simp
   refine (n_all P.W0 _ P.c P.a P.len P.cap pp 3 hS (by omega) (by omega) (by omega)).mono ?_
   rintro e w2 ⟨⟨r, rfl, h20, h21⟩, hs2, hg2⟩
   obtain ⟨R, rfl⟩ := Int.eq_ofNat_of_zero_le h20; dsimp only; exact hK.out _ _ (to9M X3 X5 R x4 R7 kn (pp + 1) rfl rfl ⟨hs2, by show pp + 1 ≤ P.p + 40 * (1 + 0); omega, grown_trans hg hg2, hc, fun h => Bool.noConfusion h, fun h => Bool.noConfusion h, fun _ => by omega, hr7, rowF hb hg2 (by have := hc.1; have := hc.2; omega), hk, hx4z, hkz⟩)
 · obtain rfl : to9o2 = o := Option.some.inj ho
   obtain rfl : b2 = false := h0
   have hn := wP9 (o := to9o2) hC h1 [(1, none), (0, some 1)] [] nk rfl; repeat (obtain ⟨rfl, hn⟩ := hn)
   have hn := wN9 hC (i := 2) rfl [(3, 2), (4, 3), (5, 4), (8, 5), (9, 8), (10, 2), (11, 2)] [] nk rfl; repeat (obtain ⟨rfl, hn⟩ := hn)
   obtain ⟨hS, hp, hg, hc, ht, hu, hr1, hr7, hb, hk, hx4z, hkz⟩ := hF; simp only [Bool.toNat_true] at hp; have r := hr1 rfl; have wz : IntKind.i64.wrap (199 + (R1 : Int)) = 199 + (R1 : Int) := by simp [IntKind.wrap, IntKind.bits, IntKind.signed]; omega
   refine wpOp_step (o := to9o2) rfl (fun K hK => ?_); replace hK := hid hK; simp only [to9o2, to9T, sel_t, sel_f]
   go_simp
   exact hK.out _ _ (to9M X3 X5 R1 x4 R7 kn pp rfl rfl ⟨hS, hp, hg, hc, ht, hu, hr1, hr7, hb, hk, hx4z, hkz⟩)
 · obtain rfl : to9o3 = o := Option.some.inj ho
   obtain rfl : b3 = false := h0
   have hn := wP9 (o := to9o3) hC h1 [(2, none), (1, some 2), (0, some 1)] [] nk rfl; repeat (obtain ⟨rfl, hn⟩ := hn)
   have hn := wN9 hC (i := 3) rfl [(4, 3), (5, 4), (8, 5), (9, 8), (10, 3), (11, 3)] [] nk rfl; repeat (obtain ⟨rfl, hn⟩ := hn)
   obtain ⟨hS, hp, hg, hc, ht, hu, hr1, hr7, hb, hk, hx4z, hkz⟩ := hF; simp only [Bool.toNat_true] at hp; have r := hr1 rfl; have ce : (((199 + R1) : Nat) : Int) = 199 + (R1 : Int) := by omega
   have hmk := fun w => mk_bytes9 w (199 + R1) (by omega); simp only [ce] at hmk; refine wpOp_step (o := to9o3) rfl (fun K hK => ?_); replace hK := hid hK; simp only [to9o3, to9T, sel_t, sel_f]
   go_simp
   exact hK.out _ _ (to9M w.heap.size X5 R1 x4 R7 kn pp rfl rfl ⟨hS.alloc _, hp, grown_al hg _, hc, fun _ _ => (own_made9 w (199 + R1) (by omega)).mono9 hg.size, fun h => Bool.noConfusion h, hr1, hr7, hb.alloc _, hk, hx4z, hkz⟩)
 · obtain rfl : to9o4 = o := Option.some.inj ho
   obtain rfl : b4 = false := h0
   have hn := wP9 (o := to9o4) hC h1 [(3, none), (2, some 3), (1, some 2), (0, some 1)] [] nk rfl; repeat (obtain ⟨rfl, hn⟩ := hn)
   have hn := wN9 hC (i := 4) rfl [(5, 4), (8, 5), (9, 8), (10, 4), (11, 4)] [] nk rfl; repeat (obtain ⟨rfl, hn⟩ := hn)
   obtain ⟨hS, hp, hg, hc, ht, hu, hr1, hr7, hb, hk, hx4z, hkz⟩ := hF; simp only [Bool.toNat_true] at hp; have hcv := conv_owned w 22 5 9 Tryz.underlying22 Tryz.underlying5 Tryz.underlying9 (ht rfl rfl); refine wpOp_step (o := to9o4) rfl (fun K hK => ?_); replace hK := hid hK; simp only [to9o4, to9T, sel_t, sel_f]
   go_simp
   exact hK.out _ _ (to9M X3 X5 R1 ((strOfNums (List.replicate (199 + R1) 0))) R7 kn pp rfl rfl ⟨hS, hp, hg, hc, ht, fun h => Bool.noConfusion h, hr1, hr7, hb, hk, fun _ => by rw [strOfNums_size, List.length_replicate]; have := hr1 rfl; omega, hkz⟩)
 · obtain rfl : to9o5 = o := Option.some.inj ho
   obtain rfl : b5 = false := h0
   have hn := wP9 (o := to9o5) hC h1 [(4, none), (3, some 4), (2, some 3), (1, some 2), (0, some 1)] [] nk rfl; repeat (obtain ⟨rfl, hn⟩ := hn)
   have hn := wN9 hC (i := 5) rfl [(8, 5), (9, 8), (10, 5), (11, 5)] [] nk rfl; repeat (obtain ⟨rfl, hn⟩ := hn)
   obtain ⟨hS, hp, hg, hc, ht, hu, hr1, hr7, hb, hk, hx4z, hkz⟩ := hF; simp only [Bool.toNat_true] at hp; refine wpOp_step (o := to9o5) rfl (fun K hK => ?_); replace hK := hid hK; simp only [to9o5, to9T, sel_t, sel_f]
   go_simp
   exact hK.out _ _ (to9M X3 w.heap.size R1 x4 R7 kn pp rfl rfl ⟨hS.alloc _, hp, grown_al hg _, hc, fun h e => (ht h e).alloc _, fun _ _ => ⟨RA.new w _ _, hg.size⟩, hr1, hr7, hb.alloc _, hk, hx4z, hkz⟩)
 · obtain rfl : to9o6 = o := Option.some.inj ho
   obtain rfl : b6 = false := h0
   have hn := wN9 hC (i := 6) rfl [(7, 6), (8, 7), (9, 8), (10, 6), (11, 6)] [] nk rfl; repeat (obtain ⟨rfl, hn⟩ := hn)
   obtain ⟨hS, hp, hg, hc, ht, hu, hr1, hr7, hb, hk, hx4z, hkz⟩ := hF; simp only [Bool.toNat_false] at hp; refine wpOp_step (o := to9o6) rfl (fun K hK => ?_); replace hK := hid hK; simp only [to9o6, to9T, sel_f]
   go_simp
   exact hK.out _ _ (to9M X3 X5 R1 x4 R7 kn pp rfl rfl ⟨hS, hp, hg, hc, ht, hu, hr1, hr7, hb, hk, hx4z, hkz⟩)
 · obtain rfl : to9o7 = o := Option.some.inj ho
   obtain rfl : b7 = false := h0
   have hn := wP9 (o := to9o7) hC h1 [(6, none), (1, none), (0, some 1)] [] nk rfl; repeat (obtain ⟨rfl, hn⟩ := hn)
   have hn := wN9 hC (i := 7) rfl [(8, 7), (9, 8), (10, 7), (11, 7)] [] nk rfl; repeat (obtain ⟨rfl, hn⟩ := hn)
   obtain ⟨hS, hp, hg, hc, ht, hu, hr1, hr7, hb, hk, hx4z, hkz⟩ := hF; simp only [Bool.toNat_true, Bool.toNat_false] at hp; refine wpOp_step (o := to9o7) rfl (fun K hK => ?_); replace hK := hid hK; simp only [to9o7, to9T, sel_t, sel_f]
   go_simp
   refine (n_all P.W0 _ P.c P.a P.len P.cap pp 2 hS (by omega) (by omega) (by omega)).mono ?_
   rintro e w2 ⟨⟨r, rfl, h20, h21⟩, hs2, hg2⟩
   obtain ⟨R, rfl⟩ := Int.eq_ofNat_of_zero_le h20; dsimp only; exact hK.out _ _ (to9M X3 X5 R1 x4 R kn (pp + 1) rfl rfl ⟨hs2, by show pp + 1 ≤ P.p + 40 * (1 + 1); omega, grown_trans hg hg2, hc, fun h e => (ht h e).far9 hg2 hc.1, fun h e => ⟨rowF (hu h e).1 hg2 (by have := (hu h e).2; have := hc.1; omega), (hu h e).2⟩, hr1, fun _ => by omega, rowF hb hg2 (by have := hc.1; have := hc.2; omega), hk, hx4z, hkz⟩)
 · obtain rfl : to9o8 = o := Option.some.inj ho
   obtain rfl : b8 = false := h0
   have hn := wP9 (o := to9o8) hC h1 [(7, none), (5, none), (1, some 7), (6, some 7), (4, some 5), (3, some 4), (2, some 3), (0, some 1)] [] nk rfl; repeat (obtain ⟨rfl, hn⟩ := hn)
   have hn := wN9 hC (i := 8) rfl [(9, 8), (10, 8), (11, 8)] [] nk rfl; repeat (obtain ⟨rfl, hn⟩ := hn)
   obtain ⟨hS, hp, hg, hc, ht, hu, hr1, hr7, hb, hk, hx4z, hkz⟩ := hF; simp only [Bool.toNat_true] at hp; have r := hr7 rfl; have r0 : (R7 : Int) < 2 := by omega
   refine wpOp_step (o := to9o8) rfl (fun K hK => ?_); replace hK := hid hK; simp only [to9o8, to9T, sel_t, sel_f]
   go_simp
   exact hK.out _ _ (to9M X3 X5 R1 x4 R7 kn pp rfl rfl ⟨hS, hp, hg, hc, ht, hu, hr1, hr7, hb, hk, hx4z, hkz⟩)
 · obtain rfl : to9o9 = o := Option.some.inj ho
   obtain rfl : b9 = false := h0
   have hn := wP9 (o := to9o9) hC h1 [(8, none), (5, some 8), (7, some 8), (1, some 7), (6, some 7), (4, some 5), (3, some 4), (2, some 3), (0, some 1)] [] nk rfl; repeat (obtain ⟨rfl, hn⟩ := hn)
   have hn := wN9 hC (i := 9) rfl [(10, 9), (11, 9)] [] nk rfl; repeat (obtain ⟨rfl, hn⟩ := hn)
   obtain ⟨hS, hp, hg, hc, ht, hu, hr1, hr7, hb, hk, hx4z, hkz⟩ := hF; simp only [Bool.toNat_true] at hp; obtain ⟨k2, hk2, hk3⟩ := two_at x4 R7 (hr7 rfl); have c2 := ((hu rfl rfl).1.cell R7).trans hk2; refine wpOp_step (o := to9o9) rfl (fun K hK => ?_); replace hK := hid hK; simp only [to9o9, to9T, sel_t, sel_f]
   go_simp
   exact hK.out _ _ (to9M X3 X5 R1 x4 R7 k2 pp rfl rfl ⟨hS, hp, hg, hc, ht, hu, hr1, hr7, hb, hk, hx4z, fun _ => Nat.le_trans hk3 (hx4z rfl)⟩)
 · obtain rfl : to9o10 = o := Option.some.inj ho
   obtain rfl : b10 = false := h0
   have hn := wP9 (o := to9o10) hC h1 [(9, none), (8, none), (7, none), (6, none), (5, none), (4, none), (3, none), (2, none), (1, none), (0, none)] [] nk rfl; repeat (obtain ⟨rfl, hn⟩ := hn)
   have hn := wN9 hC (i := 10) rfl [(11, 10)] [] nk rfl; repeat (obtain ⟨rfl, hn⟩ := hn)
   obtain ⟨hS, hp, hg, hc, ht, hu, hr1, hr7, hb, hk, hx4z, hkz⟩ := hF; simp only [Bool.toNat_true] at hp; refine wpOp_step (o := to9o10) rfl (fun K hK => ?_); replace hK := hid hK; simp only [to9o10, to9T, sel_t, sel_f]
   go_simp
   exact hK.out _ _ (to9M X3 X5 R1 x4 R7 kn pp rfl rfl ⟨hS, hp, hg, hc, ht, hu, hr1, hr7, hb, hk, hx4z, hkz⟩)
 · obtain rfl : to9o11 = o := Option.some.inj ho
   obtain rfl : b11 = false := h0
   have hn := wP9 (o := to9o11) hC h1 [(10, none), (9, none), (8, none), (7, none), (6, none), (5, none), (4, none), (3, none), (2, none), (1, none), (0, none)] [] nk rfl; repeat (obtain ⟨rfl, hn⟩ := hn)
   obtain ⟨hS, hp, hg, hc, ht, hu, hr1, hr7, hb, hk, hx4z, hkz⟩ := hF; simp only [Bool.toNat_true] at hp; have RB : RA w P.XB 39 #[.int .i64 P.kd, .string P.ky, .string P.wd, .int .i64 P.q3, .string P.til, .int .i64 P.q5] := hb; have hcx : P.c < P.XB := by have := hc.1; have := hc.2; omega
   have q1 := RB.cell 1; have f1 := RB.free 1; refine wpOp_step (o := to9o11) rfl (fun K hK => ?_); replace hK := hid hK; simp only [to9o11, to9T, sel_t]
   go_simp
   exact hK.out _ _ (to9M X3 X5 R1 x4 R7 kn pp rfl rfl ⟨hS.set hcx 1 _, hp, grown_far hg hc.2 1 _, hc, fun h e => Bool.noConfusion e, fun h e => Bool.noConfusion e, hr1, hr7, RB.set 1 _, hk, hx4z, hkz⟩)
set_option maxRecDepth 20000 in
set_option maxHeartbeats 4000000 in
theorem to9_wp {Q : Exit → Act → World → Prop} {rid : Nat} (W0 W1 : World) (c : Nat) (a : Option Addr) (len cap p XB : Nat) (kd : Int) (wd : ByteArray) (q3 : Int) (til : ByteArray) (q5 : Int) (ky : ByteArray) {s1 s2 s3 s4 s5 s6 s8 s9 s10 s11 s12 s13 s14 s15 s16 s17 s18 s19 s20 s21 s22 s23 s24 s25 s26 s27 s28 s29 s30 s31 s32 s33 s34 s35 s36 s37 s38 s39 s40 s41 s42 s43 s44 s45 s46 s47 s48 s49 s50 s51 s52 s53 s54 s55 s56 s57 s58 s59 s60 s61 s62 : Value} (w : World) (hS : Src W0 w c a len cap p) (hg : W1.grownBy w (some c)) (hc : c < W1.heap.size ∧ W1.heap.size ≤ XB) (hb : RA w XB 39 #[.int .i64 kd, .string ky, .string wd, .int .i64 q3, .string til, .int .i64 q5]) (hk : p ≤ 900000)
 (fin : ∀ (X3 : Nat) (X5 : Nat) (R1 : Nat) (x4 : ByteArray) (R7 : Nat) (kn : ByteArray) (pp : Nat) (w' : World), (Src W0 w' c a len cap pp) → (pp ≤ p + 40 * (1 + 1)) → (W1.grownBy w' (some c)) → (c < W1.heap.size ∧ W1.heap.size ≤ XB) → (R1 < 3) → (R7 < 2) → (RA w' XB 39 (cond true #[.int .i64 kd, .string kn, .string wd, .int .i64 q3, .string til, .int .i64 q5] #[.int .i64 kd, .string ky, .string wd, .int .i64 q3, .string til, .int .i64 q5])) → (p ≤ 900000) → (x4.size ≤ 201) → (kn.size ≤ 201) → Q .normal { tmps := #[.pointer (some ⟨c, 0, none⟩), s1, s2, s3, s4, s5, s6, .pointer (some ⟨XB, 0, none⟩), s8, s9, s10, s11, s12, s13, s14, s15, s16, s17, s18, s19, s20, s21, s22, s23, s24, s25, s26, s27, s28, s29, s30, s31, s32, s33, s34, s35, s36, s37, s38, s39, s40, .pointer (some ⟨c, 0, none⟩), .int .i64 (R1 : Int), .int .i64 (199 + (R1 : Int)), .slice (some ⟨X3, 0, none⟩) (199 + R1) (199 + R1), .string x4, .slice (some ⟨X5, 0, none⟩) 2 2, .pointer (some ⟨c, 0, none⟩), .int .i64 (R7 : Int), .pointer (some ⟨X5, R7, none⟩), .string kn, .pointer (some ⟨XB, 1, none⟩), s52, s53, s54, s55, s56, s57, s58, s59, s60, s61, s62], defers := [] } w') :
 (Code.region rid to9O true).wp Tryz.prog Q { tmps := #[.pointer (some ⟨c, 0, none⟩), s1, s2, s3, s4, s5, s6, .pointer (some ⟨XB, 0, none⟩), s8, s9, s10, s11, s12, s13, s14, s15, s16, s17, s18, s19, s20, s21, s22, s23, s24, s25, s26, s27, s28, s29, s30, s31, s32, s33, s34, s35, s36, s37, s38, s39, s40, s41, s42, s43, s44, s45, s46, s47, s48, s49, s50, s51, s52, s53, s54, s55, s56, s57, s58, s59, s60, s61, s62], defers := [] } w := by
 refine wp_region_inv (ops := to9O) (to9I ⟨W0, W1, c, a, len, cap, p, XB, kd, wd, q3, til, q5, ky, s1, s2, s3, s4, s5, s6, s8, s9, s10, s11, s12, s13, s14, s15, s16, s17, s18, s19, s20, s21, s22, s23, s24, s25, s26, s27, s28, s29, s30, s31, s32, s33, s34, s35, s36, s37, s38, s39, s40, s41, s42, s43, s44, s45, s46, s47, s48, s49, s50, s51, s52, s53, s54, s55, s56, s57, s58, s59, s60, s61, s62⟩) (by kernel_rfl) (by kernel_rfl) (fun l f v hI => ?_) (fun l f v hC hI i h0 o ho h1 => to9_step ⟨W0, W1, c, a, len, cap, p, XB, kd, wd, q3, til, q5, ky, s1, s2, s3, s4, s5, s6, s8, s9, s10, s11, s12, s13, s14, s15, s16, s17, s18, s19, s20, s21, s22, s23, s24, s25, s26, s27, s28, s29, s30, s31, s32, s33, s34, s35, s36, s37, s38, s39, s40, s41, s42, s43, s44, s45, s46, s47, s48, s49, s50, s51, s52, s53, s54, s55, s56, s57, s58, s59, s60, s61, s62⟩ l f v hC hI i h0 o ho h1) (fun l f v hI hall => ?_) ?_
 · obtain ⟨_, _, _, _, _, _, _, _, _, _, _, _, _, _, _, _, _, _, _, rfl, _⟩ := hI; rfl
 · obtain ⟨b0, b1, b2, b3, b4, b5, b6, b7, b8, b9, b10, b11, X3, X5, R1, x4, R7, kn, pp, rfl, rfl, hS, hp, hg, hc, ht, hu, hr1, hr7, hb, hk, hx4z, hkz⟩ := hI
   have hn := allT hall [0, 1, 2, 3, 4, 5, 6, 7, 8, 9, 10, 11] rfl; repeat (obtain ⟨rfl, hn⟩ := hn)
   exact fin X3 X5 R1 x4 R7 kn pp v hS hp hg hc (hr1 rfl) (hr7 rfl) hb hk (hx4z rfl) (hkz rfl)
 · exact ⟨false, false, false, false, false, false, false, false, false, false, false, false, 0, 0, 0, ⟨#[]⟩, 0, ⟨#[]⟩, p, rfl, rfl, hS.drew, Nat.le_add_right _ _, grown_trans hg (grown_drewS _ _), hc, fun h => Bool.noConfusion h, fun h => Bool.noConfusion h, fun h => Bool.noConfusion h, fun h => Bool.noConfusion h, hb.drew, hk, fun h => Bool.noConfusion h, fun h => Bool.noConfusion h⟩
end Go.Proofs.YtcbmgpdpjagaoaaGreat
