import Derived.Test.YtmjolkagkeonfaaGreatDoorG3
import Derived.Test.YtmjolkagkeonfaaGreatDoorG15
namespace Go.Proofs.YtmjolkagkeonfaaGreatDoor
open Go.RowKit
set_option linter.unusedVariables false
theorem effT_at (k : Nat) (hk : k < 3) : ∃ x : ByteArray, (#[.string ⟨#[97, 108, 108, 111, 119]⟩, .string ⟨#[97, 108, 108, 111, 119]⟩, .string ⟨#[100, 101, 110, 121]⟩] : Array Value)[k]? = some (.string x) ∧ x.size ≤ 5 := by
  rcases (by omega : k = 0 ∨ k = 1 ∨ k = 2) with rfl | rfl | rfl
  all_goals exact ⟨_, rfl, by decide⟩
def po5o0 : Oper := ⟨some 18, .move (.tmp 3), 9, "l09_policy.go:285", #[], none⟩
def po5o1 : Oper := ⟨some 19, .buildSlice 70 3 #[(0, .const (.string { data := #[97, 108, 108, 111, 119] })), (1, .const (.string { data := #[97, 108, 108, 111, 119] })), (2, .const (.string { data := #[100, 101, 110, 121] }))], 70, "l09_policy.go:285", #[], none⟩
def po5o2 : Oper := ⟨some 20, .move (.tmp 0), 64, "l09_policy.go:285", #[], none⟩
def po5o3 : Oper := ⟨some 21, .call { callee := .value (.func 41), args := #[.tmp 20, .const (.int .i64 3)], argTypes := #[64, 2] }, 2, "l09_policy.go:285", #[⟨2, .data⟩], none⟩
def po5o4 : Oper := ⟨some 22, .indexAddr 70 (.tmp 19) (.tmp 21), 0, "l09_policy.go:285", #[⟨1, .data⟩, ⟨3, .data⟩], none⟩
def po5o5 : Oper := ⟨some 23, .load 9 (.tmp 22), 9, "l09_policy.go:285", #[⟨4, .data⟩], none⟩
def po5o6 : Oper := ⟨some 24, .binOp .add 9 (.tmp 18) (.tmp 23) 9, 9, "l09_policy.go:285", #[⟨0, .data⟩, ⟨5, .data⟩], none⟩
def po5o7 : Oper := ⟨some 25, .binOp .add 9 (.tmp 24) (.const (.string { data := #[32, 119, 104, 111, 32] })) 9, 9, "l09_policy.go:285", #[⟨6, .data⟩], none⟩
def po5o8 : Oper := ⟨some 26, .move (.tmp 0), 64, "l09_policy.go:285", #[], none⟩
def po5o9 : Oper := ⟨some 27, .call { callee := .value (.func 75), args := #[.tmp 26, .const (.int .i64 0)], argTypes := #[64, 2] }, 9, "l09_policy.go:285", #[⟨8, .data⟩, ⟨3, .chain⟩], none⟩
def po5o10 : Oper := ⟨some 28, .binOp .add 9 (.tmp 25) (.tmp 27) 9, 9, "l09_policy.go:285", #[⟨7, .data⟩, ⟨9, .data⟩], none⟩
def po5o11 : Oper := ⟨some 29, .binOp .add 9 (.tmp 28) (.const (.string { data := #[32, 100, 111, 32] })) 9, 9, "l09_policy.go:285", #[⟨10, .data⟩], none⟩
def po5o12 : Oper := ⟨some 30, .move (.tmp 0), 64, "l09_policy.go:285", #[], none⟩
def po5o13 : Oper := ⟨some 31, .call { callee := .value (.func 75), args := #[.tmp 30, .const (.int .i64 1)], argTypes := #[64, 2] }, 9, "l09_policy.go:285", #[⟨12, .data⟩, ⟨9, .chain⟩], none⟩
def po5o14 : Oper := ⟨some 32, .binOp .add 9 (.tmp 29) (.tmp 31) 9, 9, "l09_policy.go:285", #[⟨11, .data⟩, ⟨13, .data⟩], none⟩
def po5o15 : Oper := ⟨some 33, .binOp .add 9 (.tmp 32) (.const (.string { data := #[32, 32, 111, 110, 32] })) 9, 9, "l09_policy.go:285", #[⟨14, .data⟩], none⟩
def po5o16 : Oper := ⟨some 34, .move (.tmp 0), 64, "l09_policy.go:285", #[], none⟩
def po5o17 : Oper := ⟨some 35, .call { callee := .value (.func 75), args := #[.tmp 34, .const (.int .i64 2)], argTypes := #[64, 2] }, 9, "l09_policy.go:285", #[⟨16, .data⟩, ⟨13, .chain⟩], none⟩
def po5o18 : Oper := ⟨some 36, .binOp .add 9 (.tmp 33) (.tmp 35) 9, 9, "l09_policy.go:285", #[⟨15, .data⟩, ⟨17, .data⟩], none⟩
def po5o19 : Oper := ⟨some 3, .assign (.tmp 36), 9, "l09_policy.go:285", #[⟨18, .data⟩, ⟨17, .chain⟩, ⟨0, .phase⟩, ⟨1, .phase⟩, ⟨2, .phase⟩, ⟨3, .phase⟩, ⟨4, .phase⟩, ⟨5, .phase⟩, ⟨6, .phase⟩, ⟨7, .phase⟩, ⟨8, .phase⟩, ⟨9, .phase⟩, ⟨10, .phase⟩, ⟨11, .phase⟩, ⟨12, .phase⟩, ⟨13, .phase⟩, ⟨14, .phase⟩, ⟨15, .phase⟩, ⟨16, .phase⟩, ⟨17, .phase⟩, ⟨18, .phase⟩], none⟩
def po5O : Array Oper := #[po5o0, po5o1, po5o2, po5o3, po5o4, po5o5, po5o6, po5o7, po5o8, po5o9, po5o10, po5o11, po5o12, po5o13, po5o14, po5o15, po5o16, po5o17, po5o18, po5o19]
structure po5P where
  (W0 W1 : World)
  (c : Nat)
  (a : Option Addr)
  (len cap p : Nat)
  (out : ByteArray)
  (s1 s2 s4 s5 s6 s7 s8 s9 s10 s11 s12 s13 s14 s15 s16 s17 s18 s19 s20 s21 s22 s23 s24 s25 s26 s27 s28 s29 s30 s31 s32 s33 s34 s35 s36 s37 s38 s39 s40 s41 s42 s43 s44 s45 s46 s47 s48 s49 s50 s51 s52 s53 s54 s55 s56 s57 : Value)
def po5T (P : po5P) (XT : Nat) (R3 : Nat) (x5 : ByteArray) (x9 : ByteArray) (x13 : ByteArray) (x17 : ByteArray) (t6 : ByteArray) (t7 : ByteArray) (t10 : ByteArray) (t11 : ByteArray) (t14 : ByteArray) (t15 : ByteArray) (t18 : ByteArray) (pp : Nat) (b0 b1 b2 b3 b4 b5 b6 b7 b8 b9 b10 b11 b12 b13 b14 b15 b16 b17 b18 b19 : Bool) : Array Value := #[.pointer (some ⟨P.c, 0, none⟩), P.s1, P.s2, sel b19 (.string t18) (.string P.out), P.s4, P.s5, P.s6, P.s7, P.s8, P.s9, P.s10, P.s11, P.s12, P.s13, P.s14, P.s15, P.s16, P.s17, sel b0 (.string P.out) (P.s18), sel b1 (.slice (some ⟨XT, 0, none⟩) 3 3) (P.s19), sel b2 (.pointer (some ⟨P.c, 0, none⟩)) (P.s20), sel b3 (.int .i64 (R3 : Int)) (P.s21), sel b4 (.pointer (some ⟨XT, R3, none⟩)) (P.s22), sel b5 (.string x5) (P.s23), sel b6 (.string t6) (P.s24), sel b7 (.string t7) (P.s25), sel b8 (.pointer (some ⟨P.c, 0, none⟩)) (P.s26), sel b9 (.string x9) (P.s27), sel b10 (.string t10) (P.s28), sel b11 (.string t11) (P.s29), sel b12 (.pointer (some ⟨P.c, 0, none⟩)) (P.s30), sel b13 (.string x13) (P.s31), sel b14 (.string t14) (P.s32), sel b15 (.string t15) (P.s33), sel b16 (.pointer (some ⟨P.c, 0, none⟩)) (P.s34), sel b17 (.string x17) (P.s35), sel b18 (.string t18) (P.s36), P.s37, P.s38, P.s39, P.s40, P.s41, P.s42, P.s43, P.s44, P.s45, P.s46, P.s47, P.s48, P.s49, P.s50, P.s51, P.s52, P.s53, P.s54, P.s55, P.s56, P.s57]
def po5F (P : po5P) (XT : Nat) (R3 : Nat) (x5 : ByteArray) (x9 : ByteArray) (x13 : ByteArray) (x17 : ByteArray) (t6 : ByteArray) (t7 : ByteArray) (t10 : ByteArray) (t11 : ByteArray) (t14 : ByteArray) (t15 : ByteArray) (t18 : ByteArray) (pp : Nat) (b0 b1 b2 b3 b4 b5 b6 b7 b8 b9 b10 b11 b12 b13 b14 b15 b16 b17 b18 b19 : Bool) (w : World) : Prop := (Src P.W0 w P.c P.a P.len P.cap pp) ∧ (pp ≤ P.p + 40 * (b3.toNat + b9.toNat + b13.toNat + b17.toNat)) ∧ (P.W1.grownBy w (some P.c)) ∧ (P.c < P.W1.heap.size) ∧ (b1 = true → RowAt w XT 9 #[.string ⟨#[97, 108, 108, 111, 119]⟩, .string ⟨#[97, 108, 108, 111, 119]⟩, .string ⟨#[100, 101, 110, 121]⟩] ∧ P.W1.heap.size ≤ XT) ∧ (b3 = true → R3 < 3) ∧ (b5 = true → x5.size ≤ 5) ∧ (b9 = true → x9.size ≤ 20) ∧ (b13 = true → x13.size ≤ 20) ∧ (b17 = true → x17.size ≤ 20) ∧ (b6 = true → t6.size ≤ P.out.size + 5) ∧ (b7 = true → t7.size ≤ P.out.size + 10) ∧ (b10 = true → t10.size ≤ P.out.size + 30) ∧ (b11 = true → t11.size ≤ P.out.size + 34) ∧ (b14 = true → t14.size ≤ P.out.size + 54) ∧ (b15 = true → t15.size ≤ P.out.size + 59) ∧ (b18 = true → t18.size ≤ P.out.size + 79) ∧ (P.p ≤ 900000 ∧ P.out.size ≤ 1000000)
def po5I (P : po5P) (l : Array Bool) (f : Act) (w : World) : Prop :=
  ∃ (b0 b1 b2 b3 b4 b5 b6 b7 b8 b9 b10 b11 b12 b13 b14 b15 b16 b17 b18 b19 : Bool) (XT : Nat) (R3 : Nat) (x5 : ByteArray) (x9 : ByteArray) (x13 : ByteArray) (x17 : ByteArray) (t6 : ByteArray) (t7 : ByteArray) (t10 : ByteArray) (t11 : ByteArray) (t14 : ByteArray) (t15 : ByteArray) (t18 : ByteArray) (pp : Nat), l = #[b0, b1, b2, b3, b4, b5, b6, b7, b8, b9, b10, b11, b12, b13, b14, b15, b16, b17, b18, b19] ∧ f = { tmps := po5T P XT R3 x5 x9 x13 x17 t6 t7 t10 t11 t14 t15 t18 pp b0 b1 b2 b3 b4 b5 b6 b7 b8 b9 b10 b11 b12 b13 b14 b15 b16 b17 b18 b19, defers := [] } ∧ po5F P XT R3 x5 x9 x13 x17 t6 t7 t10 t11 t14 t15 t18 pp b0 b1 b2 b3 b4 b5 b6 b7 b8 b9 b10 b11 b12 b13 b14 b15 b16 b17 b18 b19 w
theorem po5M {P : po5P} {b0 b1 b2 b3 b4 b5 b6 b7 b8 b9 b10 b11 b12 b13 b14 b15 b16 b17 b18 b19 : Bool} (XT : Nat) (R3 : Nat) (x5 : ByteArray) (x9 : ByteArray) (x13 : ByteArray) (x17 : ByteArray) (t6 : ByteArray) (t7 : ByteArray) (t10 : ByteArray) (t11 : ByteArray) (t14 : ByteArray) (t15 : ByteArray) (t18 : ByteArray) (pp : Nat) {l : Array Bool} {f : Act} {w : World} (hl : l = #[b0, b1, b2, b3, b4, b5, b6, b7, b8, b9, b10, b11, b12, b13, b14, b15, b16, b17, b18, b19]) (hf : f = { tmps := po5T P XT R3 x5 x9 x13 x17 t6 t7 t10 t11 t14 t15 t18 pp b0 b1 b2 b3 b4 b5 b6 b7 b8 b9 b10 b11 b12 b13 b14 b15 b16 b17 b18 b19, defers := [] }) (h : po5F P XT R3 x5 x9 x13 x17 t6 t7 t10 t11 t14 t15 t18 pp b0 b1 b2 b3 b4 b5 b6 b7 b8 b9 b10 b11 b12 b13 b14 b15 b16 b17 b18 b19 w) : po5I P l f w := ⟨b0, b1, b2, b3, b4, b5, b6, b7, b8, b9, b10, b11, b12, b13, b14, b15, b16, b17, b18, b19, XT, R3, x5, x9, x13, x17, t6, t7, t10, t11, t14, t15, t18, pp, hl, hf, h⟩
set_option maxRecDepth 20000 in
set_option maxHeartbeats 20000000 in
theorem po5_step {Q : Exit → Act → World → Prop} (P : po5P) (l : Array Bool) (f : Act) (w : World) (hC : Closed po5O l) (hI : po5I P l f w) (i : Nat) (h0 : l.getD i true = false) (o : Oper) (ho : po5O[i]? = some o) (h1 : ∀ e ∈ o.after, Region.binds .any e = true → l.getD e.on false = true) : wpOp Tryz.prog po5O Q i (po5I P (l.setIfInBounds i true)) f w := by
  obtain ⟨b0, b1, b2, b3, b4, b5, b6, b7, b8, b9, b10, b11, b12, b13, b14, b15, b16, b17, b18, b19, XT, R3, x5, x9, x13, x17, t6, t7, t10, t11, t14, t15, t18, pp, rfl, rfl, hF⟩ := hI
  have hi : i < 20 := by
    rcases Nat.lt_or_ge i 20 with h | h
    · exact h
    · rw [show po5O[i]? = none from Array.getElem?_eq_none h] at ho; cases ho
  rcases (by omega : i = 0 ∨ i = 1 ∨ i = 2 ∨ i = 3 ∨ i = 4 ∨ i = 5 ∨ i = 6 ∨ i = 7 ∨ i = 8 ∨ i = 9 ∨ i = 10 ∨ i = 11 ∨ i = 12 ∨ i = 13 ∨ i = 14 ∨ i = 15 ∨ i = 16 ∨ i = 17 ∨ i = 18 ∨ i = 19) with rfl | rfl | rfl | rfl | rfl | rfl | rfl | rfl | rfl | rfl | rfl | rfl | rfl | rfl | rfl | rfl | rfl | rfl | rfl | rfl
  · obtain rfl : po5o0 = o := Option.some.inj ho
    obtain rfl : b0 = false := h0
    have hn := wayN_all hC (i := 0) rfl [(6, 0), (7, 6), (10, 7), (11, 10), (14, 11), (15, 14), (18, 15), (19, 0)] [] nk rfl; repeat (obtain ⟨rfl, hn⟩ := hn)
    obtain ⟨hS, hp, hg, hc, ht, hr3, hx5, hx9, hx13, hx17, ht6, ht7, ht10, ht11, ht14, ht15, ht18, hk⟩ := hF
    refine wpOp_step (o := po5o0) rfl (fun K hK => ?_)
    replace hK := hid hK
    simp only [po5o0, po5T, sel_f]
    go_simp
    exact hK.out _ _ (po5M XT R3 x5 x9 x13 x17 t6 t7 t10 t11 t14 t15 t18 pp rfl rfl ⟨hS, hp, hg, hc, ht, hr3, hx5, hx9, hx13, hx17, ht6, ht7, ht10, ht11, ht14, ht15, ht18, hk⟩)
  · obtain rfl : po5o1 = o := Option.some.inj ho
    obtain rfl : b1 = false := h0
    have hn := wayN_all hC (i := 1) rfl [(4, 1), (5, 4), (6, 5), (7, 6), (10, 7), (11, 10), (14, 11), (15, 14), (18, 15), (19, 1)] [] nk rfl; repeat (obtain ⟨rfl, hn⟩ := hn)
    obtain ⟨hS, hp, hg, hc, ht, hr3, hx5, hx9, hx13, hx17, ht6, ht7, ht10, ht11, ht14, ht15, ht18, hk⟩ := hF
    refine wpOp_step (o := po5o1) rfl (fun K hK => ?_)
    replace hK := hid hK
    simp only [po5o1, po5T, sel_f]
    go_simp
    exact hK.out _ _ (po5M w.heap.size R3 x5 x9 x13 x17 t6 t7 t10 t11 t14 t15 t18 pp rfl rfl ⟨hS.alloc _, hp, grown_al hg _, hc, fun _ => ⟨RowAt.new w _ _, hg.size⟩, hr3, hx5, hx9, hx13, hx17, ht6, ht7, ht10, ht11, ht14, ht15, ht18, hk⟩)
  · obtain rfl : po5o2 = o := Option.some.inj ho
    obtain rfl : b2 = false := h0
    have hn := wayN_all hC (i := 2) rfl [(3, 2), (4, 3), (5, 4), (6, 5), (7, 6), (9, 3), (10, 7), (11, 10), (13, 9), (14, 11), (15, 14), (17, 13), (18, 15), (19, 2)] [] nk rfl; repeat (obtain ⟨rfl, hn⟩ := hn)
    obtain ⟨hS, hp, hg, hc, ht, hr3, hx5, hx9, hx13, hx17, ht6, ht7, ht10, ht11, ht14, ht15, ht18, hk⟩ := hF
    simp only [Bool.toNat_false] at hp
    refine wpOp_step (o := po5o2) rfl (fun K hK => ?_)
    replace hK := hid hK
    simp only [po5o2, po5T, sel_f]
    go_simp
    exact hK.out _ _ (po5M XT R3 x5 x9 x13 x17 t6 t7 t10 t11 t14 t15 t18 pp rfl rfl ⟨hS, hp, hg, hc, ht, hr3, hx5, hx9, hx13, hx17, ht6, ht7, ht10, ht11, ht14, ht15, ht18, hk⟩)
  · obtain rfl : po5o3 = o := Option.some.inj ho
    obtain rfl : b3 = false := h0
    have hn := wayP_all (o := po5o3) hC h1 [(2, none)] [] nk rfl; repeat (obtain ⟨rfl, hn⟩ := hn)
    have hn := wayN_all hC (i := 3) rfl [(4, 3), (5, 4), (6, 5), (7, 6), (9, 3), (10, 7), (11, 10), (13, 9), (14, 11), (15, 14), (17, 13), (18, 15), (19, 3)] [] nk rfl; repeat (obtain ⟨rfl, hn⟩ := hn)
    obtain ⟨hS, hp, hg, hc, ht, hr3, hx5, hx9, hx13, hx17, ht6, ht7, ht10, ht11, ht14, ht15, ht18, hk⟩ := hF
    simp only [Bool.toNat_false] at hp
    refine wpOp_step (o := po5o3) rfl (fun K hK => ?_)
    replace hK := hid hK
    simp only [po5o3, po5T, sel_t, sel_f]
    go_simp
    refine (n_all P.W0 _ P.c P.a P.len P.cap pp 3 hS (by omega) (by omega) (by omega)).mono ?_
    rintro e w2 ⟨⟨r, rfl, h20, h21⟩, hs2, hg2⟩
    obtain ⟨R, rfl⟩ := Int.eq_ofNat_of_zero_le h20
    dsimp only
    exact hK.out _ _ (po5M XT R x5 x9 x13 x17 t6 t7 t10 t11 t14 t15 t18 (pp + 1) rfl rfl ⟨hs2, by show pp + 1 ≤ P.p + 40 * (1 + 0 + 0 + 0); omega, grown_trans hg hg2, hc, fun h => ⟨rowF (ht h).1 hg2 (by have := (ht h).2; omega), (ht h).2⟩, fun _ => by omega, hx5, hx9, hx13, hx17, ht6, ht7, ht10, ht11, ht14, ht15, ht18, hk⟩)
  · obtain rfl : po5o4 = o := Option.some.inj ho
    obtain rfl : b4 = false := h0
    have hn := wayP_all (o := po5o4) hC h1 [(3, none), (1, none), (2, some 3)] [] nk rfl; repeat (obtain ⟨rfl, hn⟩ := hn)
    have hn := wayN_all hC (i := 4) rfl [(5, 4), (6, 5), (7, 6), (10, 7), (11, 10), (14, 11), (15, 14), (18, 15), (19, 4)] [] nk rfl; repeat (obtain ⟨rfl, hn⟩ := hn)
    obtain ⟨hS, hp, hg, hc, ht, hr3, hx5, hx9, hx13, hx17, ht6, ht7, ht10, ht11, ht14, ht15, ht18, hk⟩ := hF
    simp only [Bool.toNat_true] at hp
    have r := hr3 rfl
    have r0 : (R3 : Int) < 3 := by omega
    refine wpOp_step (o := po5o4) rfl (fun K hK => ?_)
    replace hK := hid hK
    simp only [po5o4, po5T, sel_t, sel_f]
    go_simp
    exact hK.out _ _ (po5M XT R3 x5 x9 x13 x17 t6 t7 t10 t11 t14 t15 t18 pp rfl rfl ⟨hS, hp, hg, hc, ht, hr3, hx5, hx9, hx13, hx17, ht6, ht7, ht10, ht11, ht14, ht15, ht18, hk⟩)
  · obtain rfl : po5o5 = o := Option.some.inj ho
    obtain rfl : b5 = false := h0
    have hn := wayP_all (o := po5o5) hC h1 [(4, none), (1, some 4), (3, some 4), (2, some 3)] [] nk rfl; repeat (obtain ⟨rfl, hn⟩ := hn)
    have hn := wayN_all hC (i := 5) rfl [(6, 5), (7, 6), (10, 7), (11, 10), (14, 11), (15, 14), (18, 15), (19, 5)] [] nk rfl; repeat (obtain ⟨rfl, hn⟩ := hn)
    obtain ⟨hS, hp, hg, hc, ht, hr3, hx5, hx9, hx13, hx17, ht6, ht7, ht10, ht11, ht14, ht15, ht18, hk⟩ := hF
    simp only [Bool.toNat_true] at hp
    obtain ⟨k2, hk2, hkk⟩ := effT_at R3 (hr3 rfl)
    have c2 := ((ht rfl).1.cell R3).trans hk2
    refine wpOp_step (o := po5o5) rfl (fun K hK => ?_)
    replace hK := hid hK
    simp only [po5o5, po5T, sel_t, sel_f]
    go_simp
    exact hK.out _ _ (po5M XT R3 k2 x9 x13 x17 t6 t7 t10 t11 t14 t15 t18 pp rfl rfl ⟨hS, hp, hg, hc, ht, hr3, fun _ => hkk, hx9, hx13, hx17, ht6, ht7, ht10, ht11, ht14, ht15, ht18, hk⟩)
  · obtain rfl : po5o6 = o := Option.some.inj ho
    obtain rfl : b6 = false := h0
    have hn := wayP_all (o := po5o6) hC h1 [(5, none), (0, none), (4, some 5), (1, some 4), (3, some 4), (2, some 3)] [] nk rfl; repeat (obtain ⟨rfl, hn⟩ := hn)
    have hn := wayN_all hC (i := 6) rfl [(7, 6), (10, 7), (11, 10), (14, 11), (15, 14), (18, 15), (19, 6)] [] nk rfl; repeat (obtain ⟨rfl, hn⟩ := hn)
    obtain ⟨hS, hp, hg, hc, ht, hr3, hx5, hx9, hx13, hx17, ht6, ht7, ht10, ht11, ht14, ht15, ht18, hk⟩ := hF
    simp only [Bool.toNat_true] at hp
    have zk := hk.2
    have zb := hx5 rfl
    have z1 : ¬ 9223372036854775807 < P.out.size + x5.size := by omega
    refine wpOp_step (o := po5o6) rfl (fun K hK => ?_)
    replace hK := hid hK
    simp only [po5o6, po5T, sel_t, sel_f]
    go_simp
    exact hK.out _ _ (po5M XT R3 x5 x9 x13 x17 (P.out ++ x5) t7 t10 t11 t14 t15 t18 pp rfl rfl ⟨hS, hp, hg, hc, ht, hr3, hx5, hx9, hx13, hx17, fun _ => by have e := sizeApp P.out x5; omega, ht7, ht10, ht11, ht14, ht15, ht18, hk⟩)
  · obtain rfl : po5o7 = o := Option.some.inj ho
    obtain rfl : b7 = false := h0
    have hn := wayP_all (o := po5o7) hC h1 [(6, none), (0, some 6), (5, some 6), (4, some 5), (1, some 4), (3, some 4), (2, some 3)] [] nk rfl; repeat (obtain ⟨rfl, hn⟩ := hn)
    have hn := wayN_all hC (i := 7) rfl [(10, 7), (11, 10), (14, 11), (15, 14), (18, 15), (19, 7)] [] nk rfl; repeat (obtain ⟨rfl, hn⟩ := hn)
    obtain ⟨hS, hp, hg, hc, ht, hr3, hx5, hx9, hx13, hx17, ht6, ht7, ht10, ht11, ht14, ht15, ht18, hk⟩ := hF
    simp only [Bool.toNat_true] at hp
    have zk := hk.2
    have za := ht6 rfl
    have z0 : (⟨#[32, 119, 104, 111, 32]⟩ : ByteArray).size = 5 := rfl
    have z1 : ¬ 9223372036854775807 < t6.size + (⟨#[32, 119, 104, 111, 32]⟩ : ByteArray).size := by omega
    have z2 : ¬ 9223372036854775807 < t6.size + 5 := by omega
    refine wpOp_step (o := po5o7) rfl (fun K hK => ?_)
    replace hK := hid hK
    simp only [po5o7, po5T, sel_t, sel_f]
    go_simp
    exact hK.out _ _ (po5M XT R3 x5 x9 x13 x17 t6 (t6 ++ ⟨#[32, 119, 104, 111, 32]⟩) t10 t11 t14 t15 t18 pp rfl rfl ⟨hS, hp, hg, hc, ht, hr3, hx5, hx9, hx13, hx17, ht6, fun _ => by have e := sizeApp t6 (⟨#[32, 119, 104, 111, 32]⟩ : ByteArray); omega, ht10, ht11, ht14, ht15, ht18, hk⟩)
  · obtain rfl : po5o8 = o := Option.some.inj ho
    obtain rfl : b8 = false := h0
    have hn := wayN_all hC (i := 8) rfl [(9, 8), (10, 9), (11, 10), (13, 9), (14, 11), (15, 14), (17, 13), (18, 15), (19, 8)] [] nk rfl; repeat (obtain ⟨rfl, hn⟩ := hn)
    obtain ⟨hS, hp, hg, hc, ht, hr3, hx5, hx9, hx13, hx17, ht6, ht7, ht10, ht11, ht14, ht15, ht18, hk⟩ := hF
    simp only [Bool.toNat_false] at hp
    refine wpOp_step (o := po5o8) rfl (fun K hK => ?_)
    replace hK := hid hK
    simp only [po5o8, po5T, sel_f]
    go_simp
    exact hK.out _ _ (po5M XT R3 x5 x9 x13 x17 t6 t7 t10 t11 t14 t15 t18 pp rfl rfl ⟨hS, hp, hg, hc, ht, hr3, hx5, hx9, hx13, hx17, ht6, ht7, ht10, ht11, ht14, ht15, ht18, hk⟩)
  · obtain rfl : po5o9 = o := Option.some.inj ho
    obtain rfl : b9 = false := h0
    have hn := wayP_all (o := po5o9) hC h1 [(8, none), (3, none), (2, some 3)] [] nk rfl; repeat (obtain ⟨rfl, hn⟩ := hn)
    have hn := wayN_all hC (i := 9) rfl [(10, 9), (11, 10), (13, 9), (14, 11), (15, 14), (17, 13), (18, 15), (19, 9)] [] nk rfl; repeat (obtain ⟨rfl, hn⟩ := hn)
    obtain ⟨hS, hp, hg, hc, ht, hr3, hx5, hx9, hx13, hx17, ht6, ht7, ht10, ht11, ht14, ht15, ht18, hk⟩ := hF
    simp only [Bool.toNat_true, Bool.toNat_false] at hp
    refine wpOp_step (o := po5o9) rfl (fun K hK => ?_)
    replace hK := hid hK
    simp only [po5o9, po5T, sel_t, sel_f]
    go_simp
    refine (patterns_all P.W0 _ P.c P.a P.len P.cap pp 0 (by omega) hS (by omega)).mono ?_
    rintro e w2 ⟨⟨u2, rfl, hu2⟩, ⟨p3, hs2, hp3⟩, hg2⟩
    dsimp only
    exact hK.out _ _ (po5M XT R3 x5 u2 x13 x17 t6 t7 t10 t11 t14 t15 t18 p3 rfl rfl ⟨hs2, by show p3 ≤ P.p + 40 * (1 + 1 + 0 + 0); omega, grown_trans hg hg2, hc, fun h => ⟨rowF (ht h).1 hg2 (by have := (ht h).2; omega), (ht h).2⟩, hr3, hx5, fun _ => hu2, hx13, hx17, ht6, ht7, ht10, ht11, ht14, ht15, ht18, hk⟩)
  · obtain rfl : po5o10 = o := Option.some.inj ho
    obtain rfl : b10 = false := h0
    have hn := wayP_all (o := po5o10) hC h1 [(9, none), (7, none), (3, some 9), (8, some 9), (6, some 7), (0, some 6), (5, some 6), (4, some 5), (1, some 4), (2, some 3)] [] nk rfl; repeat (obtain ⟨rfl, hn⟩ := hn)
    have hn := wayN_all hC (i := 10) rfl [(11, 10), (14, 11), (15, 14), (18, 15), (19, 10)] [] nk rfl; repeat (obtain ⟨rfl, hn⟩ := hn)
    obtain ⟨hS, hp, hg, hc, ht, hr3, hx5, hx9, hx13, hx17, ht6, ht7, ht10, ht11, ht14, ht15, ht18, hk⟩ := hF
    simp only [Bool.toNat_true] at hp
    have zk := hk.2
    have za := ht7 rfl
    have zb := hx9 rfl
    have z1 : ¬ 9223372036854775807 < t7.size + x9.size := by omega
    refine wpOp_step (o := po5o10) rfl (fun K hK => ?_)
    replace hK := hid hK
    simp only [po5o10, po5T, sel_t, sel_f]
    go_simp
    exact hK.out _ _ (po5M XT R3 x5 x9 x13 x17 t6 t7 (t7 ++ x9) t11 t14 t15 t18 pp rfl rfl ⟨hS, hp, hg, hc, ht, hr3, hx5, hx9, hx13, hx17, ht6, ht7, fun _ => by have e := sizeApp t7 x9; omega, ht11, ht14, ht15, ht18, hk⟩)
  · obtain rfl : po5o11 = o := Option.some.inj ho
    obtain rfl : b11 = false := h0
    have hn := wayP_all (o := po5o11) hC h1 [(10, none), (7, some 10), (9, some 10), (3, some 9), (8, some 9), (6, some 7), (0, some 6), (5, some 6), (4, some 5), (1, some 4), (2, some 3)] [] nk rfl; repeat (obtain ⟨rfl, hn⟩ := hn)
    have hn := wayN_all hC (i := 11) rfl [(14, 11), (15, 14), (18, 15), (19, 11)] [] nk rfl; repeat (obtain ⟨rfl, hn⟩ := hn)
    obtain ⟨hS, hp, hg, hc, ht, hr3, hx5, hx9, hx13, hx17, ht6, ht7, ht10, ht11, ht14, ht15, ht18, hk⟩ := hF
    simp only [Bool.toNat_true] at hp
    have zk := hk.2
    have za := ht10 rfl
    have z0 : (⟨#[32, 100, 111, 32]⟩ : ByteArray).size = 4 := rfl
    have z1 : ¬ 9223372036854775807 < t10.size + (⟨#[32, 100, 111, 32]⟩ : ByteArray).size := by omega
    have z2 : ¬ 9223372036854775807 < t10.size + 4 := by omega
    refine wpOp_step (o := po5o11) rfl (fun K hK => ?_)
    replace hK := hid hK
    simp only [po5o11, po5T, sel_t, sel_f]
    go_simp
    exact hK.out _ _ (po5M XT R3 x5 x9 x13 x17 t6 t7 t10 (t10 ++ ⟨#[32, 100, 111, 32]⟩) t14 t15 t18 pp rfl rfl ⟨hS, hp, hg, hc, ht, hr3, hx5, hx9, hx13, hx17, ht6, ht7, ht10, fun _ => by have e := sizeApp t10 (⟨#[32, 100, 111, 32]⟩ : ByteArray); omega, ht14, ht15, ht18, hk⟩)
  · obtain rfl : po5o12 = o := Option.some.inj ho
    obtain rfl : b12 = false := h0
    have hn := wayN_all hC (i := 12) rfl [(13, 12), (14, 13), (15, 14), (17, 13), (18, 15), (19, 12)] [] nk rfl; repeat (obtain ⟨rfl, hn⟩ := hn)
    obtain ⟨hS, hp, hg, hc, ht, hr3, hx5, hx9, hx13, hx17, ht6, ht7, ht10, ht11, ht14, ht15, ht18, hk⟩ := hF
    simp only [Bool.toNat_false] at hp
    refine wpOp_step (o := po5o12) rfl (fun K hK => ?_)
    replace hK := hid hK
    simp only [po5o12, po5T, sel_f]
    go_simp
    exact hK.out _ _ (po5M XT R3 x5 x9 x13 x17 t6 t7 t10 t11 t14 t15 t18 pp rfl rfl ⟨hS, hp, hg, hc, ht, hr3, hx5, hx9, hx13, hx17, ht6, ht7, ht10, ht11, ht14, ht15, ht18, hk⟩)
  · obtain rfl : po5o13 = o := Option.some.inj ho
    obtain rfl : b13 = false := h0
    have hn := wayP_all (o := po5o13) hC h1 [(12, none), (9, none), (3, some 9), (8, some 9), (2, some 3)] [] nk rfl; repeat (obtain ⟨rfl, hn⟩ := hn)
    have hn := wayN_all hC (i := 13) rfl [(14, 13), (15, 14), (17, 13), (18, 15), (19, 13)] [] nk rfl; repeat (obtain ⟨rfl, hn⟩ := hn)
    obtain ⟨hS, hp, hg, hc, ht, hr3, hx5, hx9, hx13, hx17, ht6, ht7, ht10, ht11, ht14, ht15, ht18, hk⟩ := hF
    simp only [Bool.toNat_true, Bool.toNat_false] at hp
    refine wpOp_step (o := po5o13) rfl (fun K hK => ?_)
    replace hK := hid hK
    simp only [po5o13, po5T, sel_t, sel_f]
    go_simp
    refine (patterns_all P.W0 _ P.c P.a P.len P.cap pp 1 (by omega) hS (by omega)).mono ?_
    rintro e w2 ⟨⟨u2, rfl, hu2⟩, ⟨p3, hs2, hp3⟩, hg2⟩
    dsimp only
    exact hK.out _ _ (po5M XT R3 x5 x9 u2 x17 t6 t7 t10 t11 t14 t15 t18 p3 rfl rfl ⟨hs2, by show p3 ≤ P.p + 40 * (1 + 1 + 1 + 0); omega, grown_trans hg hg2, hc, fun h => ⟨rowF (ht h).1 hg2 (by have := (ht h).2; omega), (ht h).2⟩, hr3, hx5, hx9, fun _ => hu2, hx17, ht6, ht7, ht10, ht11, ht14, ht15, ht18, hk⟩)
  · obtain rfl : po5o14 = o := Option.some.inj ho
    obtain rfl : b14 = false := h0
    have hn := wayP_all (o := po5o14) hC h1 [(13, none), (11, none), (9, some 13), (12, some 13), (10, some 11), (7, some 10), (3, some 9), (8, some 9), (6, some 7), (0, some 6), (5, some 6), (4, some 5), (1, some 4), (2, some 3)] [] nk rfl; repeat (obtain ⟨rfl, hn⟩ := hn)
    have hn := wayN_all hC (i := 14) rfl [(15, 14), (18, 15), (19, 14)] [] nk rfl; repeat (obtain ⟨rfl, hn⟩ := hn)
    obtain ⟨hS, hp, hg, hc, ht, hr3, hx5, hx9, hx13, hx17, ht6, ht7, ht10, ht11, ht14, ht15, ht18, hk⟩ := hF
    simp only [Bool.toNat_true] at hp
    have zk := hk.2
    have za := ht11 rfl
    have zb := hx13 rfl
    have z1 : ¬ 9223372036854775807 < t11.size + x13.size := by omega
    refine wpOp_step (o := po5o14) rfl (fun K hK => ?_)
    replace hK := hid hK
    simp only [po5o14, po5T, sel_t, sel_f]
    go_simp
    exact hK.out _ _ (po5M XT R3 x5 x9 x13 x17 t6 t7 t10 t11 (t11 ++ x13) t15 t18 pp rfl rfl ⟨hS, hp, hg, hc, ht, hr3, hx5, hx9, hx13, hx17, ht6, ht7, ht10, ht11, fun _ => by have e := sizeApp t11 x13; omega, ht15, ht18, hk⟩)
  · obtain rfl : po5o15 = o := Option.some.inj ho
    obtain rfl : b15 = false := h0
    have hn := wayP_all (o := po5o15) hC h1 [(14, none), (11, some 14), (13, some 14), (9, some 13), (12, some 13), (10, some 11), (7, some 10), (3, some 9), (8, some 9), (6, some 7), (0, some 6), (5, some 6), (4, some 5), (1, some 4), (2, some 3)] [] nk rfl; repeat (obtain ⟨rfl, hn⟩ := hn)
    have hn := wayN_all hC (i := 15) rfl [(18, 15), (19, 15)] [] nk rfl; repeat (obtain ⟨rfl, hn⟩ := hn)
    obtain ⟨hS, hp, hg, hc, ht, hr3, hx5, hx9, hx13, hx17, ht6, ht7, ht10, ht11, ht14, ht15, ht18, hk⟩ := hF
    simp only [Bool.toNat_true] at hp
    have zk := hk.2
    have za := ht14 rfl
    have z0 : (⟨#[32, 32, 111, 110, 32]⟩ : ByteArray).size = 5 := rfl
    have z1 : ¬ 9223372036854775807 < t14.size + (⟨#[32, 32, 111, 110, 32]⟩ : ByteArray).size := by omega
    have z2 : ¬ 9223372036854775807 < t14.size + 5 := by omega
    refine wpOp_step (o := po5o15) rfl (fun K hK => ?_)
    replace hK := hid hK
    simp only [po5o15, po5T, sel_t, sel_f]
    go_simp
    exact hK.out _ _ (po5M XT R3 x5 x9 x13 x17 t6 t7 t10 t11 t14 (t14 ++ ⟨#[32, 32, 111, 110, 32]⟩) t18 pp rfl rfl ⟨hS, hp, hg, hc, ht, hr3, hx5, hx9, hx13, hx17, ht6, ht7, ht10, ht11, ht14, fun _ => by have e := sizeApp t14 (⟨#[32, 32, 111, 110, 32]⟩ : ByteArray); omega, ht18, hk⟩)
  · obtain rfl : po5o16 = o := Option.some.inj ho
    obtain rfl : b16 = false := h0
    have hn := wayN_all hC (i := 16) rfl [(17, 16), (18, 17), (19, 16)] [] nk rfl; repeat (obtain ⟨rfl, hn⟩ := hn)
    obtain ⟨hS, hp, hg, hc, ht, hr3, hx5, hx9, hx13, hx17, ht6, ht7, ht10, ht11, ht14, ht15, ht18, hk⟩ := hF
    simp only [Bool.toNat_false] at hp
    refine wpOp_step (o := po5o16) rfl (fun K hK => ?_)
    replace hK := hid hK
    simp only [po5o16, po5T, sel_f]
    go_simp
    exact hK.out _ _ (po5M XT R3 x5 x9 x13 x17 t6 t7 t10 t11 t14 t15 t18 pp rfl rfl ⟨hS, hp, hg, hc, ht, hr3, hx5, hx9, hx13, hx17, ht6, ht7, ht10, ht11, ht14, ht15, ht18, hk⟩)
  · obtain rfl : po5o17 = o := Option.some.inj ho
    obtain rfl : b17 = false := h0
    have hn := wayP_all (o := po5o17) hC h1 [(16, none), (13, none), (9, some 13), (12, some 13), (3, some 9), (8, some 9), (2, some 3)] [] nk rfl; repeat (obtain ⟨rfl, hn⟩ := hn)
    have hn := wayN_all hC (i := 17) rfl [(18, 17), (19, 17)] [] nk rfl; repeat (obtain ⟨rfl, hn⟩ := hn)
    obtain ⟨hS, hp, hg, hc, ht, hr3, hx5, hx9, hx13, hx17, ht6, ht7, ht10, ht11, ht14, ht15, ht18, hk⟩ := hF
    simp only [Bool.toNat_true, Bool.toNat_false] at hp
    refine wpOp_step (o := po5o17) rfl (fun K hK => ?_)
    replace hK := hid hK
    simp only [po5o17, po5T, sel_t, sel_f]
    go_simp
    refine (patterns_all P.W0 _ P.c P.a P.len P.cap pp 2 (by omega) hS (by omega)).mono ?_
    rintro e w2 ⟨⟨u2, rfl, hu2⟩, ⟨p3, hs2, hp3⟩, hg2⟩
    dsimp only
    exact hK.out _ _ (po5M XT R3 x5 x9 x13 u2 t6 t7 t10 t11 t14 t15 t18 p3 rfl rfl ⟨hs2, by show p3 ≤ P.p + 40 * (1 + 1 + 1 + 1); omega, grown_trans hg hg2, hc, fun h => ⟨rowF (ht h).1 hg2 (by have := (ht h).2; omega), (ht h).2⟩, hr3, hx5, hx9, hx13, fun _ => hu2, ht6, ht7, ht10, ht11, ht14, ht15, ht18, hk⟩)
  · obtain rfl : po5o18 = o := Option.some.inj ho
    obtain rfl : b18 = false := h0
    have hn := wayP_all (o := po5o18) hC h1 [(17, none), (15, none), (13, some 17), (16, some 17), (14, some 15), (11, some 14), (9, some 13), (12, some 13), (10, some 11), (7, some 10), (3, some 9), (8, some 9), (6, some 7), (0, some 6), (5, some 6), (4, some 5), (1, some 4), (2, some 3)] [] nk rfl; repeat (obtain ⟨rfl, hn⟩ := hn)
    have hn := wayN_all hC (i := 18) rfl [(19, 18)] [] nk rfl; repeat (obtain ⟨rfl, hn⟩ := hn)
    obtain ⟨hS, hp, hg, hc, ht, hr3, hx5, hx9, hx13, hx17, ht6, ht7, ht10, ht11, ht14, ht15, ht18, hk⟩ := hF
    simp only [Bool.toNat_true] at hp
    have zk := hk.2
    have za := ht15 rfl
    have zb := hx17 rfl
    have z1 : ¬ 9223372036854775807 < t15.size + x17.size := by omega
    refine wpOp_step (o := po5o18) rfl (fun K hK => ?_)
    replace hK := hid hK
    simp only [po5o18, po5T, sel_t, sel_f]
    go_simp
    exact hK.out _ _ (po5M XT R3 x5 x9 x13 x17 t6 t7 t10 t11 t14 t15 (t15 ++ x17) pp rfl rfl ⟨hS, hp, hg, hc, ht, hr3, hx5, hx9, hx13, hx17, ht6, ht7, ht10, ht11, ht14, ht15, fun _ => by have e := sizeApp t15 x17; omega, hk⟩)
  · obtain rfl : po5o19 = o := Option.some.inj ho
    obtain rfl : b19 = false := h0
    have hn := wayP_all (o := po5o19) hC h1 [(18, none), (17, none), (16, none), (15, none), (14, none), (13, none), (12, none), (11, none), (10, none), (9, none), (8, none), (7, none), (6, none), (5, none), (4, none), (3, none), (2, none), (1, none), (0, none)] [] nk rfl; repeat (obtain ⟨rfl, hn⟩ := hn)
    obtain ⟨hS, hp, hg, hc, ht, hr3, hx5, hx9, hx13, hx17, ht6, ht7, ht10, ht11, ht14, ht15, ht18, hk⟩ := hF
    simp only [Bool.toNat_true] at hp
    refine wpOp_step (o := po5o19) rfl (fun K hK => ?_)
    replace hK := hid hK
    simp only [po5o19, po5T, sel_t, sel_f]
    go_simp
    exact hK.out _ _ (po5M XT R3 x5 x9 x13 x17 t6 t7 t10 t11 t14 t15 t18 pp rfl rfl ⟨hS, hp, hg, hc, ht, hr3, hx5, hx9, hx13, hx17, ht6, ht7, ht10, ht11, ht14, ht15, ht18, hk⟩)
set_option maxRecDepth 20000 in
set_option maxHeartbeats 4000000 in
theorem po5_wp {Q : Exit → Act → World → Prop} {rid : Nat} (W0 W1 : World) (c : Nat) (a : Option Addr) (len cap p : Nat) (out : ByteArray) {s1 s2 s4 s5 s6 s7 s8 s9 s10 s11 s12 s13 s14 s15 s16 s17 s18 s19 s20 s21 s22 s23 s24 s25 s26 s27 s28 s29 s30 s31 s32 s33 s34 s35 s36 s37 s38 s39 s40 s41 s42 s43 s44 s45 s46 s47 s48 s49 s50 s51 s52 s53 s54 s55 s56 s57 : Value} (w : World) (hS : Src W0 w c a len cap p) (hg : W1.grownBy w (some c)) (hc : c < W1.heap.size) (hk : p ≤ 900000 ∧ out.size ≤ 1000000)
    (fin : ∀ (XT : Nat) (R3 : Nat) (x5 : ByteArray) (x9 : ByteArray) (x13 : ByteArray) (x17 : ByteArray) (t6 : ByteArray) (t7 : ByteArray) (t10 : ByteArray) (t11 : ByteArray) (t14 : ByteArray) (t15 : ByteArray) (t18 : ByteArray) (pp : Nat) (w' : World), (Src W0 w' c a len cap pp) → (pp ≤ p + 40 * (1 + 1 + 1 + 1)) → (W1.grownBy w' (some c)) → (c < W1.heap.size) → (RowAt w' XT 9 #[.string ⟨#[97, 108, 108, 111, 119]⟩, .string ⟨#[97, 108, 108, 111, 119]⟩, .string ⟨#[100, 101, 110, 121]⟩] ∧ W1.heap.size ≤ XT) → (R3 < 3) → (x5.size ≤ 5) → (x9.size ≤ 20) → (x13.size ≤ 20) → (x17.size ≤ 20) → (t6.size ≤ out.size + 5) → (t7.size ≤ out.size + 10) → (t10.size ≤ out.size + 30) → (t11.size ≤ out.size + 34) → (t14.size ≤ out.size + 54) → (t15.size ≤ out.size + 59) → (t18.size ≤ out.size + 79) → (p ≤ 900000 ∧ out.size ≤ 1000000) → Q .normal { tmps := #[.pointer (some ⟨c, 0, none⟩), s1, s2, .string t18, s4, s5, s6, s7, s8, s9, s10, s11, s12, s13, s14, s15, s16, s17, .string out, .slice (some ⟨XT, 0, none⟩) 3 3, .pointer (some ⟨c, 0, none⟩), .int .i64 (R3 : Int), .pointer (some ⟨XT, R3, none⟩), .string x5, .string t6, .string t7, .pointer (some ⟨c, 0, none⟩), .string x9, .string t10, .string t11, .pointer (some ⟨c, 0, none⟩), .string x13, .string t14, .string t15, .pointer (some ⟨c, 0, none⟩), .string x17, .string t18, s37, s38, s39, s40, s41, s42, s43, s44, s45, s46, s47, s48, s49, s50, s51, s52, s53, s54, s55, s56, s57], defers := [] } w') :
    (Code.region rid po5O true).wp Tryz.prog Q { tmps := #[.pointer (some ⟨c, 0, none⟩), s1, s2, .string out, s4, s5, s6, s7, s8, s9, s10, s11, s12, s13, s14, s15, s16, s17, s18, s19, s20, s21, s22, s23, s24, s25, s26, s27, s28, s29, s30, s31, s32, s33, s34, s35, s36, s37, s38, s39, s40, s41, s42, s43, s44, s45, s46, s47, s48, s49, s50, s51, s52, s53, s54, s55, s56, s57], defers := [] } w := by
  refine wp_region_inv (ops := po5O) (po5I ⟨W0, W1, c, a, len, cap, p, out, s1, s2, s4, s5, s6, s7, s8, s9, s10, s11, s12, s13, s14, s15, s16, s17, s18, s19, s20, s21, s22, s23, s24, s25, s26, s27, s28, s29, s30, s31, s32, s33, s34, s35, s36, s37, s38, s39, s40, s41, s42, s43, s44, s45, s46, s47, s48, s49, s50, s51, s52, s53, s54, s55, s56, s57⟩) (by kernel_rfl) (by kernel_rfl) (fun l f v hI => ?_) (fun l f v hC hI i h0 o ho h1 => po5_step ⟨W0, W1, c, a, len, cap, p, out, s1, s2, s4, s5, s6, s7, s8, s9, s10, s11, s12, s13, s14, s15, s16, s17, s18, s19, s20, s21, s22, s23, s24, s25, s26, s27, s28, s29, s30, s31, s32, s33, s34, s35, s36, s37, s38, s39, s40, s41, s42, s43, s44, s45, s46, s47, s48, s49, s50, s51, s52, s53, s54, s55, s56, s57⟩ l f v hC hI i h0 o ho h1) (fun l f v hI hall => ?_) ?_
  · obtain ⟨_, _, _, _, _, _, _, _, _, _, _, _, _, _, _, _, _, _, _, _, _, _, _, _, _, _, _, _, _, _, _, _, _, _, rfl, _⟩ := hI; rfl
  · obtain ⟨b0, b1, b2, b3, b4, b5, b6, b7, b8, b9, b10, b11, b12, b13, b14, b15, b16, b17, b18, b19, XT, R3, x5, x9, x13, x17, t6, t7, t10, t11, t14, t15, t18, pp, rfl, rfl, hS, hp, hg, hc, ht, hr3, hx5, hx9, hx13, hx17, ht6, ht7, ht10, ht11, ht14, ht15, ht18, hk⟩ := hI
    have hn := allT hall [0, 1, 2, 3, 4, 5, 6, 7, 8, 9, 10, 11, 12, 13, 14, 15, 16, 17, 18, 19] rfl; repeat (obtain ⟨rfl, hn⟩ := hn)
    exact fin XT R3 x5 x9 x13 x17 t6 t7 t10 t11 t14 t15 t18 pp v hS hp hg hc (ht rfl) (hr3 rfl) (hx5 rfl) (hx9 rfl) (hx13 rfl) (hx17 rfl) (ht6 rfl) (ht7 rfl) (ht10 rfl) (ht11 rfl) (ht14 rfl) (ht15 rfl) (ht18 rfl) hk
  · exact ⟨false, false, false, false, false, false, false, false, false, false, false, false, false, false, false, false, false, false, false, false, 0, 0, ⟨#[]⟩, ⟨#[]⟩, ⟨#[]⟩, ⟨#[]⟩, ⟨#[]⟩, ⟨#[]⟩, ⟨#[]⟩, ⟨#[]⟩, ⟨#[]⟩, ⟨#[]⟩, ⟨#[]⟩, p, rfl, rfl, hS.drew, Nat.le_add_right _ _, grown_trans hg (grown_drewS _ _), hc, fun h => Bool.noConfusion h, fun h => Bool.noConfusion h, fun h => Bool.noConfusion h, fun h => Bool.noConfusion h, fun h => Bool.noConfusion h, fun h => Bool.noConfusion h, fun h => Bool.noConfusion h, fun h => Bool.noConfusion h, fun h => Bool.noConfusion h, fun h => Bool.noConfusion h, fun h => Bool.noConfusion h, fun h => Bool.noConfusion h, fun h => Bool.noConfusion h, hk⟩
end Go.Proofs.YtmjolkagkeonfaaGreatDoor
