import Derived.Test.YtmjolkagkeonfaaDoorGM
import Derived.Test.YtmjolkagkeonfaaDoorGN
namespace Go.Proofs.YtmjolkagkeonfaaDoor
open Go.RowKit
set_option linter.unusedVariables false
def dj5o0 : Oper := ⟨some 15, .move (.tmp 4), 35, "l09_policy.go:351", #[], none⟩
def dj5o1 : Oper := ⟨some 16, .call { callee := .value (.func 12), args := #[.tmp 15, .const (.int .i64 2)], argTypes := #[35, 2] }, 2, "l09_policy.go:351", #[⟨0, .data⟩], none⟩
def dj5o2 : Oper := ⟨some 17, .binOp .add 2 (.const (.int .i64 1)) (.tmp 16) 2, 2, "l09_policy.go:351", #[⟨1, .data⟩], none⟩
def dj5o3 : Oper := ⟨some 18, .buildSlice 30 1 #[(0, .const (.string { data := #[42] }))], 30, "l09_policy.go:351", #[], none⟩
def dj5o4 : Oper := ⟨some 19, .buildSlice 30 1 #[(0, .const (.string { data := #[42] }))], 30, "l09_policy.go:351", #[], none⟩
def dj5o5 : Oper := ⟨some 20, .buildSlice 30 1 #[(0, .const (.string { data := #[42] }))], 30, "l09_policy.go:351", #[], none⟩
def dj5o6 : Oper := ⟨some 21, .move (.tmp 4), 35, "l09_policy.go:351", #[], none⟩
def dj5o7 : Oper := ⟨some 22, .call { callee := .value (.func 12), args := #[.tmp 21, .const (.int .i64 2)], argTypes := #[35, 2] }, 2, "l09_policy.go:351", #[⟨6, .data⟩, ⟨1, .chain⟩], none⟩
def dj5o8 : Oper := ⟨some 23, .binOp .add 2 (.const (.int .i64 2)) (.tmp 22) 2, 2, "l09_policy.go:351", #[⟨7, .data⟩], none⟩
def dj5o9 : Oper := ⟨some 24, .fieldAddr 25 (.tmp 6) 4, 0, "l09_policy.go:351", #[], none⟩
def dj5o10 : Oper := ⟨some 25, .load 2 (.tmp 24), 2, "l09_policy.go:351", #[⟨9, .data⟩], none⟩
def dj5o11 : Oper := ⟨some 26, .move (.tmp 4), 35, "l09_policy.go:351", #[], none⟩
def dj5o12 : Oper := ⟨some 27, .call { callee := .value (.func 12), args := #[.tmp 26, .const (.int .i64 3)], argTypes := #[35, 2] }, 2, "l09_policy.go:351", #[⟨11, .data⟩, ⟨7, .chain⟩], none⟩
def dj5o13 : Oper := ⟨some 28, .binOp .add 2 (.tmp 25) (.tmp 27) 2, 2, "l09_policy.go:351", #[⟨10, .data⟩, ⟨12, .data⟩], none⟩
def dj5o14 : Oper := ⟨some 29, .binOp .sub 2 (.tmp 28) (.const (.int .i64 1)) 2, 2, "l09_policy.go:351", #[⟨13, .data⟩], none⟩
def dj5o15 : Oper := ⟨some 30, .build 42 #[(0, .tmp 23), (2, .tmp 29)], 42, "l09_policy.go:351", #[⟨8, .data⟩, ⟨14, .data⟩], none⟩
def dj5o16 : Oper := ⟨some 31, .buildSlice 31 1 #[(0, .tmp 30)], 31, "l09_policy.go:351", #[⟨15, .data⟩], none⟩
def dj5o17 : Oper := ⟨some 32, .build 33 #[(0, .tmp 17), (1, .tmp 18), (2, .tmp 19), (3, .tmp 20), (4, .tmp 31)], 33, "l09_policy.go:351", #[⟨2, .data⟩, ⟨3, .data⟩, ⟨4, .data⟩, ⟨5, .data⟩, ⟨16, .data⟩], none⟩
def dj5o18 : Oper := ⟨some 33, .buildSlice 23 1 #[(0, .tmp 32)], 23, "l09_policy.go:351", #[⟨17, .data⟩], none⟩
def dj5o19 : Oper := ⟨some 5, .assign (.tmp 33), 23, "l09_policy.go:351", #[⟨18, .data⟩, ⟨12, .chain⟩, ⟨0, .phase⟩, ⟨1, .phase⟩, ⟨2, .phase⟩, ⟨3, .phase⟩, ⟨4, .phase⟩, ⟨5, .phase⟩, ⟨6, .phase⟩, ⟨7, .phase⟩, ⟨8, .phase⟩, ⟨9, .phase⟩, ⟨10, .phase⟩, ⟨11, .phase⟩, ⟨12, .phase⟩, ⟨13, .phase⟩, ⟨14, .phase⟩, ⟨15, .phase⟩, ⟨16, .phase⟩, ⟨17, .phase⟩, ⟨18, .phase⟩], none⟩
def dj5O : Array Oper := #[dj5o0, dj5o1, dj5o2, dj5o3, dj5o4, dj5o5, dj5o6, dj5o7, dj5o8, dj5o9, dj5o10, dj5o11, dj5o12, dj5o13, dj5o14, dj5o15, dj5o16, dj5o17, dj5o18, dj5o19]
structure dj5P where
  (W0 W1 : World)
  (c : Nat)
  (a : Option Addr)
  (len cap p XA : Nat)
  (qa qb qc qd : ByteArray)
  (tA : Int)
  (s0 s1 s2 s3 s5 s7 s8 s9 s10 s11 s12 s13 s14 s15 s16 s17 s18 s19 s20 s21 s22 s23 s24 s25 s26 s27 s28 s29 s30 s31 s32 s33 s34 s35 : Value)
def dj5T (P : dj5P) (X3 : Nat) (X4 : Nat) (X5 : Nat) (X16 : Nat) (X18 : Nat) (R1 : Nat) (R7 : Nat) (R12 : Nat) (pp : Nat) (b0 b1 b2 b3 b4 b5 b6 b7 b8 b9 b10 b11 b12 b13 b14 b15 b16 b17 b18 b19 : Bool) : Array Value := #[P.s0, P.s1, P.s2, P.s3, .pointer (some ⟨P.c, 0, none⟩), sel b19 (.slice (some ⟨X18, 0, none⟩) 1 1) (P.s5), .pointer (some ⟨P.XA, 0, none⟩), P.s7, P.s8, P.s9, P.s10, P.s11, P.s12, P.s13, P.s14, sel b0 (.pointer (some ⟨P.c, 0, none⟩)) (P.s15), sel b1 (.int .i64 (R1 : Int)) (P.s16), sel b2 (.int .i64 (1 + (R1 : Int))) (P.s17), sel b3 (.slice (some ⟨X3, 0, none⟩) 1 1) (P.s18), sel b4 (.slice (some ⟨X4, 0, none⟩) 1 1) (P.s19), sel b5 (.slice (some ⟨X5, 0, none⟩) 1 1) (P.s20), sel b6 (.pointer (some ⟨P.c, 0, none⟩)) (P.s21), sel b7 (.int .i64 (R7 : Int)) (P.s22), sel b8 (.int .i64 (2 + (R7 : Int))) (P.s23), sel b9 (.pointer (some ⟨P.XA, 4, none⟩)) (P.s24), sel b10 (.int .i64 P.tA) (P.s25), sel b11 (.pointer (some ⟨P.c, 0, none⟩)) (P.s26), sel b12 (.int .i64 (R12 : Int)) (P.s27), sel b13 (.int .i64 (P.tA + (R12 : Int))) (P.s28), sel b14 (.int .i64 (P.tA + (R12 : Int) - 1)) (P.s29), sel b15 (.agg #[.int .i64 (2 + (R7 : Int)), .string ⟨#[]⟩, .int .i64 (P.tA + (R12 : Int) - 1)]) (P.s30), sel b16 (.slice (some ⟨X16, 0, none⟩) 1 1) (P.s31), sel b17 (.agg #[.int .i64 (1 + (R1 : Int)), .slice (some ⟨X3, 0, none⟩) 1 1, .slice (some ⟨X4, 0, none⟩) 1 1, .slice (some ⟨X5, 0, none⟩) 1 1, .slice (some ⟨X16, 0, none⟩) 1 1]) (P.s32), sel b18 (.slice (some ⟨X18, 0, none⟩) 1 1) (P.s33), P.s34, P.s35]
def dj5F (P : dj5P) (X3 : Nat) (X4 : Nat) (X5 : Nat) (X16 : Nat) (X18 : Nat) (R1 : Nat) (R7 : Nat) (R12 : Nat) (pp : Nat) (b0 b1 b2 b3 b4 b5 b6 b7 b8 b9 b10 b11 b12 b13 b14 b15 b16 b17 b18 b19 : Bool) (w : World) : Prop := (Src P.W0 w P.c P.a P.len P.cap pp) ∧ (pp ≤ P.p + 40 * (b1.toNat + b7.toNat + b12.toNat)) ∧ (P.W1.grownBy w (some P.c)) ∧ (P.c < P.W1.heap.size ∧ P.c < P.XA) ∧ (RowAt w P.XA 25 #[.string P.qa, .string P.qb, .string P.qc, .string P.qd, .int .i64 P.tA]) ∧ (b3 = true → RowAt w X3 9 #[.string ⟨#[42]⟩] ∧ P.W1.heap.size ≤ X3) ∧ (b4 = true → RowAt w X4 9 #[.string ⟨#[42]⟩] ∧ P.W1.heap.size ≤ X4) ∧ (b5 = true → RowAt w X5 9 #[.string ⟨#[42]⟩] ∧ P.W1.heap.size ≤ X5) ∧ (b16 = true → RowAt w X16 42 #[.int .i64 (2 + (R7 : Int)), .string ⟨#[]⟩, .int .i64 (P.tA + (R12 : Int) - 1)] ∧ P.W1.heap.size ≤ X16) ∧ (b18 = true → RowAt w X18 33 #[.int .i64 (1 + (R1 : Int)), .slice (some ⟨X3, 0, none⟩) 1 1, .slice (some ⟨X4, 0, none⟩) 1 1, .slice (some ⟨X5, 0, none⟩) 1 1, .slice (some ⟨X16, 0, none⟩) 1 1] ∧ P.W1.heap.size ≤ X18) ∧ (b1 = true → R1 < 2) ∧ (b7 = true → R7 < 2) ∧ (b12 = true → R12 < 3) ∧ (P.p ≤ 900000 ∧ 0 ≤ P.tA ∧ P.tA ≤ 200)
def dj5I (P : dj5P) (l : Array Bool) (f : Act) (w : World) : Prop :=
  ∃ (b0 b1 b2 b3 b4 b5 b6 b7 b8 b9 b10 b11 b12 b13 b14 b15 b16 b17 b18 b19 : Bool) (X3 : Nat) (X4 : Nat) (X5 : Nat) (X16 : Nat) (X18 : Nat) (R1 : Nat) (R7 : Nat) (R12 : Nat) (pp : Nat), l = #[b0, b1, b2, b3, b4, b5, b6, b7, b8, b9, b10, b11, b12, b13, b14, b15, b16, b17, b18, b19] ∧ f = { tmps := dj5T P X3 X4 X5 X16 X18 R1 R7 R12 pp b0 b1 b2 b3 b4 b5 b6 b7 b8 b9 b10 b11 b12 b13 b14 b15 b16 b17 b18 b19, defers := [] } ∧ dj5F P X3 X4 X5 X16 X18 R1 R7 R12 pp b0 b1 b2 b3 b4 b5 b6 b7 b8 b9 b10 b11 b12 b13 b14 b15 b16 b17 b18 b19 w
theorem dj5M {P : dj5P} {b0 b1 b2 b3 b4 b5 b6 b7 b8 b9 b10 b11 b12 b13 b14 b15 b16 b17 b18 b19 : Bool} (X3 : Nat) (X4 : Nat) (X5 : Nat) (X16 : Nat) (X18 : Nat) (R1 : Nat) (R7 : Nat) (R12 : Nat) (pp : Nat) {l : Array Bool} {f : Act} {w : World} (hl : l = #[b0, b1, b2, b3, b4, b5, b6, b7, b8, b9, b10, b11, b12, b13, b14, b15, b16, b17, b18, b19]) (hf : f = { tmps := dj5T P X3 X4 X5 X16 X18 R1 R7 R12 pp b0 b1 b2 b3 b4 b5 b6 b7 b8 b9 b10 b11 b12 b13 b14 b15 b16 b17 b18 b19, defers := [] }) (h : dj5F P X3 X4 X5 X16 X18 R1 R7 R12 pp b0 b1 b2 b3 b4 b5 b6 b7 b8 b9 b10 b11 b12 b13 b14 b15 b16 b17 b18 b19 w) : dj5I P l f w := ⟨b0, b1, b2, b3, b4, b5, b6, b7, b8, b9, b10, b11, b12, b13, b14, b15, b16, b17, b18, b19, X3, X4, X5, X16, X18, R1, R7, R12, pp, hl, hf, h⟩
set_option maxRecDepth 20000 in
set_option maxHeartbeats 20000000 in
theorem dj5_step {Q : Exit → Act → World → Prop} (P : dj5P) (l : Array Bool) (f : Act) (w : World) (hC : Closed dj5O l) (hI : dj5I P l f w) (i : Nat) (h0 : l.getD i true = false) (o : Oper) (ho : dj5O[i]? = some o) (h1 : ∀ e ∈ o.after, Region.binds .any e = true → l.getD e.on false = true) : wpOp Tryd.prog dj5O Q i (dj5I P (l.setIfInBounds i true)) f w := by
  obtain ⟨b0, b1, b2, b3, b4, b5, b6, b7, b8, b9, b10, b11, b12, b13, b14, b15, b16, b17, b18, b19, X3, X4, X5, X16, X18, R1, R7, R12, pp, rfl, rfl, hF⟩ := hI
  have hi : i < 20 := by
    rcases Nat.lt_or_ge i 20 with h | h
    · exact h
    · rw [show dj5O[i]? = none from Array.getElem?_eq_none h] at ho; cases ho
  rcases (by omega : i = 0 ∨ i = 1 ∨ i = 2 ∨ i = 3 ∨ i = 4 ∨ i = 5 ∨ i = 6 ∨ i = 7 ∨ i = 8 ∨ i = 9 ∨ i = 10 ∨ i = 11 ∨ i = 12 ∨ i = 13 ∨ i = 14 ∨ i = 15 ∨ i = 16 ∨ i = 17 ∨ i = 18 ∨ i = 19) with rfl | rfl | rfl | rfl | rfl | rfl | rfl | rfl | rfl | rfl | rfl | rfl | rfl | rfl | rfl | rfl | rfl | rfl | rfl | rfl
  · obtain rfl : dj5o0 = o := Option.some.inj ho
    obtain rfl : b0 = false := h0
    have hn := wayN_all hC (i := 0) rfl [(1, 0), (2, 1), (7, 1), (8, 7), (12, 7), (13, 12), (14, 13), (15, 8), (16, 15), (17, 2), (18, 17), (19, 0)] [] nk rfl; repeat (obtain ⟨rfl, hn⟩ := hn)
    obtain ⟨hS, hp, hg, hc, hA, hT3, hT4, hT5, hT16, hT18, hR1, hR7, hR12, hk⟩ := hF
    simp only [Bool.toNat_false] at hp
    refine wpOp_step (o := dj5o0) rfl (fun K hK => ?_)
    replace hK := hid hK
    simp only [dj5o0, dj5T, sel_f]
    go_simp
    exact hK.out _ _ (dj5M X3 X4 X5 X16 X18 R1 R7 R12 pp rfl rfl ⟨hS, hp, hg, hc, hA, hT3, hT4, hT5, hT16, hT18, hR1, hR7, hR12, hk⟩)
  · obtain rfl : dj5o1 = o := Option.some.inj ho
    obtain rfl : b1 = false := h0
    have hn := wayP_all (o := dj5o1) hC h1 [(0, none)] [] nk rfl; repeat (obtain ⟨rfl, hn⟩ := hn)
    have hn := wayN_all hC (i := 1) rfl [(2, 1), (7, 1), (8, 7), (12, 7), (13, 12), (14, 13), (15, 8), (16, 15), (17, 2), (18, 17), (19, 1)] [] nk rfl; repeat (obtain ⟨rfl, hn⟩ := hn)
    obtain ⟨hS, hp, hg, hc, hA, hT3, hT4, hT5, hT16, hT18, hR1, hR7, hR12, hk⟩ := hF
    simp only [Bool.toNat_false] at hp
    refine wpOp_step (o := dj5o1) rfl (fun K hK => ?_)
    replace hK := hid hK
    simp only [dj5o1, dj5T, sel_t, sel_f]
    go_simp
    refine (n_all P.W0 _ P.c P.a P.len P.cap pp 2 hS (by omega) (by omega) (by omega)).mono ?_
    rintro e w2 ⟨⟨r, rfl, h20, h21⟩, hs2, hg2⟩
    obtain ⟨R, rfl⟩ := Int.eq_ofNat_of_zero_le h20
    dsimp only
    exact hK.out _ _ (dj5M X3 X4 X5 X16 X18 R R7 R12 (pp + 1) rfl rfl ⟨hs2, by show pp + 1 ≤ P.p + 40 * (1 + 0 + 0); omega, grown_trans hg hg2, hc, rowF hA hg2 hc.2, fun h => ⟨rowF (hT3 h).1 hg2 (by have := (hT3 h).2; omega), (hT3 h).2⟩, fun h => ⟨rowF (hT4 h).1 hg2 (by have := (hT4 h).2; omega), (hT4 h).2⟩, fun h => ⟨rowF (hT5 h).1 hg2 (by have := (hT5 h).2; omega), (hT5 h).2⟩, fun h => Bool.noConfusion h, fun h => Bool.noConfusion h, fun _ => by omega, hR7, hR12, hk⟩)
  · obtain rfl : dj5o2 = o := Option.some.inj ho
    obtain rfl : b2 = false := h0
    have hn := wayP_all (o := dj5o2) hC h1 [(1, none), (0, some 1)] [] nk rfl; repeat (obtain ⟨rfl, hn⟩ := hn)
    have hn := wayN_all hC (i := 2) rfl [(17, 2), (18, 17), (19, 2)] [] nk rfl; repeat (obtain ⟨rfl, hn⟩ := hn)
    obtain ⟨hS, hp, hg, hc, hA, hT3, hT4, hT5, hT16, hT18, hR1, hR7, hR12, hk⟩ := hF
    simp only [Bool.toNat_true] at hp
    have r := hR1 rfl
    have wz : IntKind.i64.wrap (1 + (R1 : Int)) = 1 + (R1 : Int) := by simp [IntKind.wrap, IntKind.bits, IntKind.signed]; omega
    refine wpOp_step (o := dj5o2) rfl (fun K hK => ?_)
    replace hK := hid hK
    simp only [dj5o2, dj5T, sel_t, sel_f]
    go_simp
    exact hK.out _ _ (dj5M X3 X4 X5 X16 X18 R1 R7 R12 pp rfl rfl ⟨hS, hp, hg, hc, hA, hT3, hT4, hT5, hT16, hT18, hR1, hR7, hR12, hk⟩)
  · obtain rfl : dj5o3 = o := Option.some.inj ho
    obtain rfl : b3 = false := h0
    have hn := wayN_all hC (i := 3) rfl [(17, 3), (18, 17), (19, 3)] [] nk rfl; repeat (obtain ⟨rfl, hn⟩ := hn)
    obtain ⟨hS, hp, hg, hc, hA, hT3, hT4, hT5, hT16, hT18, hR1, hR7, hR12, hk⟩ := hF
    refine wpOp_step (o := dj5o3) rfl (fun K hK => ?_)
    replace hK := hid hK
    simp only [dj5o3, dj5T, sel_f]
    go_simp
    exact hK.out _ _ (dj5M w.heap.size X4 X5 X16 X18 R1 R7 R12 pp rfl rfl ⟨hS.alloc _, hp, grown_al hg _, hc, hA.alloc _, fun _ => ⟨RowAt.new w _ _, hg.size⟩, fun h => ⟨(hT4 h).1.alloc _, (hT4 h).2⟩, fun h => ⟨(hT5 h).1.alloc _, (hT5 h).2⟩, fun h => ⟨(hT16 h).1.alloc _, (hT16 h).2⟩, fun h => Bool.noConfusion h, hR1, hR7, hR12, hk⟩)
  · obtain rfl : dj5o4 = o := Option.some.inj ho
    obtain rfl : b4 = false := h0
    have hn := wayN_all hC (i := 4) rfl [(17, 4), (18, 17), (19, 4)] [] nk rfl; repeat (obtain ⟨rfl, hn⟩ := hn)
    obtain ⟨hS, hp, hg, hc, hA, hT3, hT4, hT5, hT16, hT18, hR1, hR7, hR12, hk⟩ := hF
    refine wpOp_step (o := dj5o4) rfl (fun K hK => ?_)
    replace hK := hid hK
    simp only [dj5o4, dj5T, sel_f]
    go_simp
    exact hK.out _ _ (dj5M X3 w.heap.size X5 X16 X18 R1 R7 R12 pp rfl rfl ⟨hS.alloc _, hp, grown_al hg _, hc, hA.alloc _, fun h => ⟨(hT3 h).1.alloc _, (hT3 h).2⟩, fun _ => ⟨RowAt.new w _ _, hg.size⟩, fun h => ⟨(hT5 h).1.alloc _, (hT5 h).2⟩, fun h => ⟨(hT16 h).1.alloc _, (hT16 h).2⟩, fun h => Bool.noConfusion h, hR1, hR7, hR12, hk⟩)
  · obtain rfl : dj5o5 = o := Option.some.inj ho
    obtain rfl : b5 = false := h0
    have hn := wayN_all hC (i := 5) rfl [(17, 5), (18, 17), (19, 5)] [] nk rfl; repeat (obtain ⟨rfl, hn⟩ := hn)
    obtain ⟨hS, hp, hg, hc, hA, hT3, hT4, hT5, hT16, hT18, hR1, hR7, hR12, hk⟩ := hF
    refine wpOp_step (o := dj5o5) rfl (fun K hK => ?_)
    replace hK := hid hK
    simp only [dj5o5, dj5T, sel_f]
    go_simp
    exact hK.out _ _ (dj5M X3 X4 w.heap.size X16 X18 R1 R7 R12 pp rfl rfl ⟨hS.alloc _, hp, grown_al hg _, hc, hA.alloc _, fun h => ⟨(hT3 h).1.alloc _, (hT3 h).2⟩, fun h => ⟨(hT4 h).1.alloc _, (hT4 h).2⟩, fun _ => ⟨RowAt.new w _ _, hg.size⟩, fun h => ⟨(hT16 h).1.alloc _, (hT16 h).2⟩, fun h => Bool.noConfusion h, hR1, hR7, hR12, hk⟩)
  · obtain rfl : dj5o6 = o := Option.some.inj ho
    obtain rfl : b6 = false := h0
    have hn := wayN_all hC (i := 6) rfl [(7, 6), (8, 7), (12, 7), (13, 12), (14, 13), (15, 8), (16, 15), (17, 16), (18, 17), (19, 6)] [] nk rfl; repeat (obtain ⟨rfl, hn⟩ := hn)
    obtain ⟨hS, hp, hg, hc, hA, hT3, hT4, hT5, hT16, hT18, hR1, hR7, hR12, hk⟩ := hF
    simp only [Bool.toNat_false] at hp
    refine wpOp_step (o := dj5o6) rfl (fun K hK => ?_)
    replace hK := hid hK
    simp only [dj5o6, dj5T, sel_f]
    go_simp
    exact hK.out _ _ (dj5M X3 X4 X5 X16 X18 R1 R7 R12 pp rfl rfl ⟨hS, hp, hg, hc, hA, hT3, hT4, hT5, hT16, hT18, hR1, hR7, hR12, hk⟩)
  · obtain rfl : dj5o7 = o := Option.some.inj ho
    obtain rfl : b7 = false := h0
    have hn := wayP_all (o := dj5o7) hC h1 [(6, none), (1, none), (0, some 1)] [] nk rfl; repeat (obtain ⟨rfl, hn⟩ := hn)
    have hn := wayN_all hC (i := 7) rfl [(8, 7), (12, 7), (13, 12), (14, 13), (15, 8), (16, 15), (17, 16), (18, 17), (19, 7)] [] nk rfl; repeat (obtain ⟨rfl, hn⟩ := hn)
    obtain ⟨hS, hp, hg, hc, hA, hT3, hT4, hT5, hT16, hT18, hR1, hR7, hR12, hk⟩ := hF
    simp only [Bool.toNat_true, Bool.toNat_false] at hp
    refine wpOp_step (o := dj5o7) rfl (fun K hK => ?_)
    replace hK := hid hK
    simp only [dj5o7, dj5T, sel_t, sel_f]
    go_simp
    refine (n_all P.W0 _ P.c P.a P.len P.cap pp 2 hS (by omega) (by omega) (by omega)).mono ?_
    rintro e w2 ⟨⟨r, rfl, h20, h21⟩, hs2, hg2⟩
    obtain ⟨R, rfl⟩ := Int.eq_ofNat_of_zero_le h20
    dsimp only
    exact hK.out _ _ (dj5M X3 X4 X5 X16 X18 R1 R R12 (pp + 1) rfl rfl ⟨hs2, by show pp + 1 ≤ P.p + 40 * (1 + 1 + 0); omega, grown_trans hg hg2, hc, rowF hA hg2 hc.2, fun h => ⟨rowF (hT3 h).1 hg2 (by have := (hT3 h).2; omega), (hT3 h).2⟩, fun h => ⟨rowF (hT4 h).1 hg2 (by have := (hT4 h).2; omega), (hT4 h).2⟩, fun h => ⟨rowF (hT5 h).1 hg2 (by have := (hT5 h).2; omega), (hT5 h).2⟩, fun h => Bool.noConfusion h, fun h => Bool.noConfusion h, hR1, fun _ => by omega, hR12, hk⟩)
  · obtain rfl : dj5o8 = o := Option.some.inj ho
    obtain rfl : b8 = false := h0
    have hn := wayP_all (o := dj5o8) hC h1 [(7, none), (1, some 7), (6, some 7), (0, some 1)] [] nk rfl; repeat (obtain ⟨rfl, hn⟩ := hn)
    have hn := wayN_all hC (i := 8) rfl [(15, 8), (16, 15), (17, 16), (18, 17), (19, 8)] [] nk rfl; repeat (obtain ⟨rfl, hn⟩ := hn)
    obtain ⟨hS, hp, hg, hc, hA, hT3, hT4, hT5, hT16, hT18, hR1, hR7, hR12, hk⟩ := hF
    simp only [Bool.toNat_true] at hp
    have r := hR7 rfl
    have wz : IntKind.i64.wrap (2 + (R7 : Int)) = 2 + (R7 : Int) := by simp [IntKind.wrap, IntKind.bits, IntKind.signed]; omega
    refine wpOp_step (o := dj5o8) rfl (fun K hK => ?_)
    replace hK := hid hK
    simp only [dj5o8, dj5T, sel_t, sel_f]
    go_simp
    exact hK.out _ _ (dj5M X3 X4 X5 X16 X18 R1 R7 R12 pp rfl rfl ⟨hS, hp, hg, hc, hA, hT3, hT4, hT5, hT16, hT18, hR1, hR7, hR12, hk⟩)
  · obtain rfl : dj5o9 = o := Option.some.inj ho
    obtain rfl : b9 = false := h0
    have hn := wayN_all hC (i := 9) rfl [(10, 9), (13, 10), (14, 13), (15, 14), (16, 15), (17, 16), (18, 17), (19, 9)] [] nk rfl; repeat (obtain ⟨rfl, hn⟩ := hn)
    obtain ⟨hS, hp, hg, hc, hA, hT3, hT4, hT5, hT16, hT18, hR1, hR7, hR12, hk⟩ := hF
    refine wpOp_step (o := dj5o9) rfl (fun K hK => ?_)
    replace hK := hid hK
    simp only [dj5o9, dj5T, sel_f]
    go_simp
    exact hK.out _ _ (dj5M X3 X4 X5 X16 X18 R1 R7 R12 pp rfl rfl ⟨hS, hp, hg, hc, hA, hT3, hT4, hT5, hT16, hT18, hR1, hR7, hR12, hk⟩)
  · obtain rfl : dj5o10 = o := Option.some.inj ho
    obtain rfl : b10 = false := h0
    have hn := wayP_all (o := dj5o10) hC h1 [(9, none)] [] nk rfl; repeat (obtain ⟨rfl, hn⟩ := hn)
    have hn := wayN_all hC (i := 10) rfl [(13, 10), (14, 13), (15, 14), (16, 15), (17, 16), (18, 17), (19, 10)] [] nk rfl; repeat (obtain ⟨rfl, hn⟩ := hn)
    obtain ⟨hS, hp, hg, hc, hA, hT3, hT4, hT5, hT16, hT18, hR1, hR7, hR12, hk⟩ := hF
    have c2 := hA.cell 4
    refine wpOp_step (o := dj5o10) rfl (fun K hK => ?_)
    replace hK := hid hK
    simp only [dj5o10, dj5T, sel_t, sel_f]
    go_simp
    exact hK.out _ _ (dj5M X3 X4 X5 X16 X18 R1 R7 R12 pp rfl rfl ⟨hS, hp, hg, hc, hA, hT3, hT4, hT5, hT16, hT18, hR1, hR7, hR12, hk⟩)
  · obtain rfl : dj5o11 = o := Option.some.inj ho
    obtain rfl : b11 = false := h0
    have hn := wayN_all hC (i := 11) rfl [(12, 11), (13, 12), (14, 13), (15, 14), (16, 15), (17, 16), (18, 17), (19, 11)] [] nk rfl; repeat (obtain ⟨rfl, hn⟩ := hn)
    obtain ⟨hS, hp, hg, hc, hA, hT3, hT4, hT5, hT16, hT18, hR1, hR7, hR12, hk⟩ := hF
    simp only [Bool.toNat_false] at hp
    refine wpOp_step (o := dj5o11) rfl (fun K hK => ?_)
    replace hK := hid hK
    simp only [dj5o11, dj5T, sel_f]
    go_simp
    exact hK.out _ _ (dj5M X3 X4 X5 X16 X18 R1 R7 R12 pp rfl rfl ⟨hS, hp, hg, hc, hA, hT3, hT4, hT5, hT16, hT18, hR1, hR7, hR12, hk⟩)
  · obtain rfl : dj5o12 = o := Option.some.inj ho
    obtain rfl : b12 = false := h0
    have hn := wayP_all (o := dj5o12) hC h1 [(11, none), (7, none), (1, some 7), (6, some 7), (0, some 1)] [] nk rfl; repeat (obtain ⟨rfl, hn⟩ := hn)
    have hn := wayN_all hC (i := 12) rfl [(13, 12), (14, 13), (15, 14), (16, 15), (17, 16), (18, 17), (19, 12)] [] nk rfl; repeat (obtain ⟨rfl, hn⟩ := hn)
    obtain ⟨hS, hp, hg, hc, hA, hT3, hT4, hT5, hT16, hT18, hR1, hR7, hR12, hk⟩ := hF
    simp only [Bool.toNat_true, Bool.toNat_false] at hp
    refine wpOp_step (o := dj5o12) rfl (fun K hK => ?_)
    replace hK := hid hK
    simp only [dj5o12, dj5T, sel_t, sel_f]
    go_simp
    refine (n_all P.W0 _ P.c P.a P.len P.cap pp 3 hS (by omega) (by omega) (by omega)).mono ?_
    rintro e w2 ⟨⟨r, rfl, h20, h21⟩, hs2, hg2⟩
    obtain ⟨R, rfl⟩ := Int.eq_ofNat_of_zero_le h20
    dsimp only
    exact hK.out _ _ (dj5M X3 X4 X5 X16 X18 R1 R7 R (pp + 1) rfl rfl ⟨hs2, by show pp + 1 ≤ P.p + 40 * (1 + 1 + 1); omega, grown_trans hg hg2, hc, rowF hA hg2 hc.2, fun h => ⟨rowF (hT3 h).1 hg2 (by have := (hT3 h).2; omega), (hT3 h).2⟩, fun h => ⟨rowF (hT4 h).1 hg2 (by have := (hT4 h).2; omega), (hT4 h).2⟩, fun h => ⟨rowF (hT5 h).1 hg2 (by have := (hT5 h).2; omega), (hT5 h).2⟩, fun h => Bool.noConfusion h, fun h => Bool.noConfusion h, hR1, hR7, fun _ => by omega, hk⟩)
  · obtain rfl : dj5o13 = o := Option.some.inj ho
    obtain rfl : b13 = false := h0
    have hn := wayP_all (o := dj5o13) hC h1 [(12, none), (10, none), (7, some 12), (11, some 12), (9, some 10), (1, some 7), (6, some 7), (0, some 1)] [] nk rfl; repeat (obtain ⟨rfl, hn⟩ := hn)
    have hn := wayN_all hC (i := 13) rfl [(14, 13), (15, 14), (16, 15), (17, 16), (18, 17), (19, 13)] [] nk rfl; repeat (obtain ⟨rfl, hn⟩ := hn)
    obtain ⟨hS, hp, hg, hc, hA, hT3, hT4, hT5, hT16, hT18, hR1, hR7, hR12, hk⟩ := hF
    simp only [Bool.toNat_true] at hp
    have r := hR12 rfl
    have wz : IntKind.i64.wrap (P.tA + (R12 : Int)) = P.tA + (R12 : Int) := by simp [IntKind.wrap, IntKind.bits, IntKind.signed]; omega
    refine wpOp_step (o := dj5o13) rfl (fun K hK => ?_)
    replace hK := hid hK
    simp only [dj5o13, dj5T, sel_t, sel_f]
    go_simp
    exact hK.out _ _ (dj5M X3 X4 X5 X16 X18 R1 R7 R12 pp rfl rfl ⟨hS, hp, hg, hc, hA, hT3, hT4, hT5, hT16, hT18, hR1, hR7, hR12, hk⟩)
  · obtain rfl : dj5o14 = o := Option.some.inj ho
    obtain rfl : b14 = false := h0
    have hn := wayP_all (o := dj5o14) hC h1 [(13, none), (10, some 13), (12, some 13), (7, some 12), (11, some 12), (9, some 10), (1, some 7), (6, some 7), (0, some 1)] [] nk rfl; repeat (obtain ⟨rfl, hn⟩ := hn)
    have hn := wayN_all hC (i := 14) rfl [(15, 14), (16, 15), (17, 16), (18, 17), (19, 14)] [] nk rfl; repeat (obtain ⟨rfl, hn⟩ := hn)
    obtain ⟨hS, hp, hg, hc, hA, hT3, hT4, hT5, hT16, hT18, hR1, hR7, hR12, hk⟩ := hF
    simp only [Bool.toNat_true] at hp
    have r := hR12 rfl
    have wz : IntKind.i64.wrap (P.tA + (R12 : Int) - 1) = P.tA + (R12 : Int) - 1 := by simp [IntKind.wrap, IntKind.bits, IntKind.signed]; omega
    refine wpOp_step (o := dj5o14) rfl (fun K hK => ?_)
    replace hK := hid hK
    simp only [dj5o14, dj5T, sel_t, sel_f]
    go_simp
    exact hK.out _ _ (dj5M X3 X4 X5 X16 X18 R1 R7 R12 pp rfl rfl ⟨hS, hp, hg, hc, hA, hT3, hT4, hT5, hT16, hT18, hR1, hR7, hR12, hk⟩)
  · obtain rfl : dj5o15 = o := Option.some.inj ho
    obtain rfl : b15 = false := h0
    have hn := wayP_all (o := dj5o15) hC h1 [(14, none), (8, none), (13, some 14), (10, some 13), (12, some 13), (7, some 12), (11, some 12), (9, some 10), (1, some 7), (6, some 7), (0, some 1)] [] nk rfl; repeat (obtain ⟨rfl, hn⟩ := hn)
    have hn := wayN_all hC (i := 15) rfl [(16, 15), (17, 16), (18, 17), (19, 15)] [] nk rfl; repeat (obtain ⟨rfl, hn⟩ := hn)
    obtain ⟨hS, hp, hg, hc, hA, hT3, hT4, hT5, hT16, hT18, hR1, hR7, hR12, hk⟩ := hF
    simp only [Bool.toNat_true] at hp
    refine wpOp_step (o := dj5o15) rfl (fun K hK => ?_)
    replace hK := hid hK
    simp only [dj5o15, dj5T, sel_t, sel_f]
    go_simp
    exact hK.out _ _ (dj5M X3 X4 X5 X16 X18 R1 R7 R12 pp rfl rfl ⟨hS, hp, hg, hc, hA, hT3, hT4, hT5, hT16, hT18, hR1, hR7, hR12, hk⟩)
  · obtain rfl : dj5o16 = o := Option.some.inj ho
    obtain rfl : b16 = false := h0
    have hn := wayP_all (o := dj5o16) hC h1 [(15, none), (8, some 15), (14, some 15), (13, some 14), (10, some 13), (12, some 13), (7, some 12), (11, some 12), (9, some 10), (1, some 7), (6, some 7), (0, some 1)] [] nk rfl; repeat (obtain ⟨rfl, hn⟩ := hn)
    have hn := wayN_all hC (i := 16) rfl [(17, 16), (18, 17), (19, 16)] [] nk rfl; repeat (obtain ⟨rfl, hn⟩ := hn)
    obtain ⟨hS, hp, hg, hc, hA, hT3, hT4, hT5, hT16, hT18, hR1, hR7, hR12, hk⟩ := hF
    simp only [Bool.toNat_true] at hp
    refine wpOp_step (o := dj5o16) rfl (fun K hK => ?_)
    replace hK := hid hK
    simp only [dj5o16, dj5T, sel_t, sel_f]
    go_simp
    exact hK.out _ _ (dj5M X3 X4 X5 w.heap.size X18 R1 R7 R12 pp rfl rfl ⟨hS.alloc _, hp, grown_al hg _, hc, hA.alloc _, fun h => ⟨(hT3 h).1.alloc _, (hT3 h).2⟩, fun h => ⟨(hT4 h).1.alloc _, (hT4 h).2⟩, fun h => ⟨(hT5 h).1.alloc _, (hT5 h).2⟩, fun _ => ⟨RowAt.new w _ _, hg.size⟩, fun h => Bool.noConfusion h, hR1, hR7, hR12, hk⟩)
  · obtain rfl : dj5o17 = o := Option.some.inj ho
    obtain rfl : b17 = false := h0
    have hn := wayP_all (o := dj5o17) hC h1 [(16, none), (5, none), (4, none), (3, none), (2, none), (15, some 16), (8, some 15), (14, some 15), (13, some 14), (10, some 13), (12, some 13), (7, some 12), (11, some 12), (9, some 10), (1, some 7), (6, some 7), (0, some 1)] [] nk rfl; repeat (obtain ⟨rfl, hn⟩ := hn)
    have hn := wayN_all hC (i := 17) rfl [(18, 17), (19, 17)] [] nk rfl; repeat (obtain ⟨rfl, hn⟩ := hn)
    obtain ⟨hS, hp, hg, hc, hA, hT3, hT4, hT5, hT16, hT18, hR1, hR7, hR12, hk⟩ := hF
    simp only [Bool.toNat_true] at hp
    refine wpOp_step (o := dj5o17) rfl (fun K hK => ?_)
    replace hK := hid hK
    simp only [dj5o17, dj5T, sel_t, sel_f]
    go_simp
    exact hK.out _ _ (dj5M X3 X4 X5 X16 X18 R1 R7 R12 pp rfl rfl ⟨hS, hp, hg, hc, hA, hT3, hT4, hT5, hT16, hT18, hR1, hR7, hR12, hk⟩)
  · obtain rfl : dj5o18 = o := Option.some.inj ho
    obtain rfl : b18 = false := h0
    have hn := wayP_all (o := dj5o18) hC h1 [(17, none), (2, some 17), (3, some 17), (4, some 17), (5, some 17), (16, some 17), (15, some 16), (8, some 15), (14, some 15), (13, some 14), (10, some 13), (12, some 13), (7, some 12), (11, some 12), (9, some 10), (1, some 7), (6, some 7), (0, some 1)] [] nk rfl; repeat (obtain ⟨rfl, hn⟩ := hn)
    have hn := wayN_all hC (i := 18) rfl [(19, 18)] [] nk rfl; repeat (obtain ⟨rfl, hn⟩ := hn)
    obtain ⟨hS, hp, hg, hc, hA, hT3, hT4, hT5, hT16, hT18, hR1, hR7, hR12, hk⟩ := hF
    simp only [Bool.toNat_true] at hp
    refine wpOp_step (o := dj5o18) rfl (fun K hK => ?_)
    replace hK := hid hK
    simp only [dj5o18, dj5T, sel_t, sel_f]
    go_simp
    exact hK.out _ _ (dj5M X3 X4 X5 X16 w.heap.size R1 R7 R12 pp rfl rfl ⟨hS.alloc _, hp, grown_al hg _, hc, hA.alloc _, fun h => ⟨(hT3 h).1.alloc _, (hT3 h).2⟩, fun h => ⟨(hT4 h).1.alloc _, (hT4 h).2⟩, fun h => ⟨(hT5 h).1.alloc _, (hT5 h).2⟩, fun h => ⟨(hT16 h).1.alloc _, (hT16 h).2⟩, fun _ => ⟨RowAt.new w _ _, hg.size⟩, hR1, hR7, hR12, hk⟩)
  · obtain rfl : dj5o19 = o := Option.some.inj ho
    obtain rfl : b19 = false := h0
    have hn := wayP_all (o := dj5o19) hC h1 [(18, none), (17, none), (16, none), (15, none), (14, none), (13, none), (12, none), (11, none), (10, none), (9, none), (8, none), (7, none), (6, none), (5, none), (4, none), (3, none), (2, none), (1, none), (0, none)] [] nk rfl; repeat (obtain ⟨rfl, hn⟩ := hn)
    obtain ⟨hS, hp, hg, hc, hA, hT3, hT4, hT5, hT16, hT18, hR1, hR7, hR12, hk⟩ := hF
    simp only [Bool.toNat_true] at hp
    refine wpOp_step (o := dj5o19) rfl (fun K hK => ?_)
    replace hK := hid hK
    simp only [dj5o19, dj5T, sel_t, sel_f]
    go_simp
    exact hK.out _ _ (dj5M X3 X4 X5 X16 X18 R1 R7 R12 pp rfl rfl ⟨hS, hp, hg, hc, hA, hT3, hT4, hT5, hT16, hT18, hR1, hR7, hR12, hk⟩)
set_option maxRecDepth 20000 in
set_option maxHeartbeats 4000000 in
theorem dj5_wp {Q : Exit → Act → World → Prop} {rid : Nat} (W0 W1 : World) (c : Nat) (a : Option Addr) (len cap p XA : Nat) (qa qb qc qd : ByteArray) (tA : Int) {s0 s1 s2 s3 s5 s7 s8 s9 s10 s11 s12 s13 s14 s15 s16 s17 s18 s19 s20 s21 s22 s23 s24 s25 s26 s27 s28 s29 s30 s31 s32 s33 s34 s35 : Value} (w : World) (hS : Src W0 w c a len cap p) (hg : W1.grownBy w (some c)) (hc : c < W1.heap.size ∧ c < XA) (hA : RowAt w XA 25 #[.string qa, .string qb, .string qc, .string qd, .int .i64 tA]) (hk : p ≤ 900000 ∧ 0 ≤ tA ∧ tA ≤ 200)
    (fin : ∀ (X3 : Nat) (X4 : Nat) (X5 : Nat) (X16 : Nat) (X18 : Nat) (R1 : Nat) (R7 : Nat) (R12 : Nat) (pp : Nat) (w' : World), (Src W0 w' c a len cap pp) → (pp ≤ p + 40 * (1 + 1 + 1)) → (W1.grownBy w' (some c)) → (c < W1.heap.size ∧ c < XA) → (RowAt w' XA 25 #[.string qa, .string qb, .string qc, .string qd, .int .i64 tA]) → (RowAt w' X3 9 #[.string ⟨#[42]⟩] ∧ W1.heap.size ≤ X3) → (RowAt w' X4 9 #[.string ⟨#[42]⟩] ∧ W1.heap.size ≤ X4) → (RowAt w' X5 9 #[.string ⟨#[42]⟩] ∧ W1.heap.size ≤ X5) → (RowAt w' X16 42 #[.int .i64 (2 + (R7 : Int)), .string ⟨#[]⟩, .int .i64 (tA + (R12 : Int) - 1)] ∧ W1.heap.size ≤ X16) → (RowAt w' X18 33 #[.int .i64 (1 + (R1 : Int)), .slice (some ⟨X3, 0, none⟩) 1 1, .slice (some ⟨X4, 0, none⟩) 1 1, .slice (some ⟨X5, 0, none⟩) 1 1, .slice (some ⟨X16, 0, none⟩) 1 1] ∧ W1.heap.size ≤ X18) → (R1 < 2) → (R7 < 2) → (R12 < 3) → (p ≤ 900000 ∧ 0 ≤ tA ∧ tA ≤ 200) → Q .normal { tmps := #[s0, s1, s2, s3, .pointer (some ⟨c, 0, none⟩), .slice (some ⟨X18, 0, none⟩) 1 1, .pointer (some ⟨XA, 0, none⟩), s7, s8, s9, s10, s11, s12, s13, s14, .pointer (some ⟨c, 0, none⟩), .int .i64 (R1 : Int), .int .i64 (1 + (R1 : Int)), .slice (some ⟨X3, 0, none⟩) 1 1, .slice (some ⟨X4, 0, none⟩) 1 1, .slice (some ⟨X5, 0, none⟩) 1 1, .pointer (some ⟨c, 0, none⟩), .int .i64 (R7 : Int), .int .i64 (2 + (R7 : Int)), .pointer (some ⟨XA, 4, none⟩), .int .i64 tA, .pointer (some ⟨c, 0, none⟩), .int .i64 (R12 : Int), .int .i64 (tA + (R12 : Int)), .int .i64 (tA + (R12 : Int) - 1), .agg #[.int .i64 (2 + (R7 : Int)), .string ⟨#[]⟩, .int .i64 (tA + (R12 : Int) - 1)], .slice (some ⟨X16, 0, none⟩) 1 1, .agg #[.int .i64 (1 + (R1 : Int)), .slice (some ⟨X3, 0, none⟩) 1 1, .slice (some ⟨X4, 0, none⟩) 1 1, .slice (some ⟨X5, 0, none⟩) 1 1, .slice (some ⟨X16, 0, none⟩) 1 1], .slice (some ⟨X18, 0, none⟩) 1 1, s34, s35], defers := [] } w') :
    (Code.region rid dj5O true).wp Tryd.prog Q { tmps := #[s0, s1, s2, s3, .pointer (some ⟨c, 0, none⟩), s5, .pointer (some ⟨XA, 0, none⟩), s7, s8, s9, s10, s11, s12, s13, s14, s15, s16, s17, s18, s19, s20, s21, s22, s23, s24, s25, s26, s27, s28, s29, s30, s31, s32, s33, s34, s35], defers := [] } w := by
  refine wp_region_inv (ops := dj5O) (dj5I ⟨W0, W1, c, a, len, cap, p, XA, qa, qb, qc, qd, tA, s0, s1, s2, s3, s5, s7, s8, s9, s10, s11, s12, s13, s14, s15, s16, s17, s18, s19, s20, s21, s22, s23, s24, s25, s26, s27, s28, s29, s30, s31, s32, s33, s34, s35⟩) (by kernel_rfl) (by kernel_rfl) (fun l f v hI => ?_) (fun l f v hC hI i h0 o ho h1 => dj5_step ⟨W0, W1, c, a, len, cap, p, XA, qa, qb, qc, qd, tA, s0, s1, s2, s3, s5, s7, s8, s9, s10, s11, s12, s13, s14, s15, s16, s17, s18, s19, s20, s21, s22, s23, s24, s25, s26, s27, s28, s29, s30, s31, s32, s33, s34, s35⟩ l f v hC hI i h0 o ho h1) (fun l f v hI hall => ?_) ?_
  · obtain ⟨_, _, _, _, _, _, _, _, _, _, _, _, _, _, _, _, _, _, _, _, _, _, _, _, _, _, _, _, _, rfl, _⟩ := hI; rfl
  · obtain ⟨b0, b1, b2, b3, b4, b5, b6, b7, b8, b9, b10, b11, b12, b13, b14, b15, b16, b17, b18, b19, X3, X4, X5, X16, X18, R1, R7, R12, pp, rfl, rfl, hS, hp, hg, hc, hA, hT3, hT4, hT5, hT16, hT18, hR1, hR7, hR12, hk⟩ := hI
    have hn := allT hall [0, 1, 2, 3, 4, 5, 6, 7, 8, 9, 10, 11, 12, 13, 14, 15, 16, 17, 18, 19] rfl; repeat (obtain ⟨rfl, hn⟩ := hn)
    exact fin X3 X4 X5 X16 X18 R1 R7 R12 pp v hS hp hg hc hA (hT3 rfl) (hT4 rfl) (hT5 rfl) (hT16 rfl) (hT18 rfl) (hR1 rfl) (hR7 rfl) (hR12 rfl) hk
  · exact ⟨false, false, false, false, false, false, false, false, false, false, false, false, false, false, false, false, false, false, false, false, 0, 0, 0, 0, 0, 0, 0, 0, p, rfl, rfl, hS.drew, Nat.le_add_right _ _, grown_trans hg (grown_drewS _ _), hc, hA.drew, fun h => Bool.noConfusion h, fun h => Bool.noConfusion h, fun h => Bool.noConfusion h, fun h => Bool.noConfusion h, fun h => Bool.noConfusion h, fun h => Bool.noConfusion h, fun h => Bool.noConfusion h, fun h => Bool.noConfusion h, hk⟩
end Go.Proofs.YtmjolkagkeonfaaDoor
