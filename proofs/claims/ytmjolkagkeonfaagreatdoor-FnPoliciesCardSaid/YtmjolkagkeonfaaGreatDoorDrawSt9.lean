import Derived.Test.YtmjolkagkeonfaaGreatDoorG3
import Derived.Test.YtmjolkagkeonfaaGreatDoorDrawSt1
namespace Go.Proofs.YtmjolkagkeonfaaGreatDoor
open Go.RowKit
set_option linter.unusedVariables false
theorem st9_tab7 (k : Nat) (hk : k < 3) : ∃ x : ByteArray, (#[.string ⟨#[]⟩, .string ⟨#[97, 44, 98]⟩, .string ⟨#[97, 32, 98]⟩] : Array Value)[k]? = some (.string x) ∧ x.size ≤ 3 := by
  rcases (by omega : k = 0 ∨ k = 1 ∨ k = 2) with rfl | rfl | rfl
  all_goals exact ⟨_, rfl, by decide⟩
def st9o0 : Oper := ⟨some 34, .move (.tmp 3), 23, "l09_policy.go:321", #[], none⟩
def st9o1 : Oper := ⟨some 35, .move (.tmp 4), 2, "l09_policy.go:321", #[], none⟩
def st9o2 : Oper := ⟨some 36, .move (.tmp 3), 23, "l09_policy.go:321", #[], none⟩
def st9o3 : Oper := ⟨some 37, .move (.tmp 4), 2, "l09_policy.go:321", #[], none⟩
def st9o4 : Oper := ⟨some 38, .indexAddr 23 (.tmp 36) (.tmp 37), 0, "l09_policy.go:321", #[⟨2, .data⟩, ⟨3, .data⟩], none⟩
def st9o5 : Oper := ⟨some 39, .fieldAddr 73 (.tmp 38) 1, 0, "l09_policy.go:321", #[⟨4, .data⟩], none⟩
def st9o6 : Oper := ⟨some 40, .load 70 (.tmp 39), 70, "l09_policy.go:321", #[⟨5, .data⟩], none⟩
def st9o7 : Oper := ⟨some 41, .buildSlice 70 3 #[(0, .const (.string { data := #[] })), (1, .const (.string { data := #[97, 44, 98] })), (2, .const (.string { data := #[97, 32, 98] }))], 70, "l09_policy.go:321", #[], none⟩
def st9o8 : Oper := ⟨some 42, .move (.tmp 0), 64, "l09_policy.go:321", #[], none⟩
def st9o9 : Oper := ⟨some 43, .call { callee := .value (.func 41), args := #[.tmp 42, .const (.int .i64 3)], argTypes := #[64, 2] }, 2, "l09_policy.go:321", #[⟨8, .data⟩], none⟩
def st9o10 : Oper := ⟨some 44, .indexAddr 70 (.tmp 41) (.tmp 43), 0, "l09_policy.go:321", #[⟨7, .data⟩, ⟨9, .data⟩], none⟩
def st9o11 : Oper := ⟨some 45, .load 9 (.tmp 44), 9, "l09_policy.go:321", #[⟨10, .data⟩], none⟩
def st9o12 : Oper := ⟨some 46, .buildSlice 70 1 #[(0, .tmp 45)], 70, "l09_policy.go:321", #[⟨11, .data⟩], none⟩
def st9o13 : Oper := ⟨some 47, .call { callee := .builtin Builtin.append, args := #[.tmp 40, .tmp 46], argTypes := #[70, 70] }, 70, "l09_policy.go:321", #[⟨6, .data⟩, ⟨12, .data⟩, ⟨9, .chain⟩], none⟩
def st9o14 : Oper := ⟨some 48, .indexAddr 23 (.tmp 34) (.tmp 35), 0, "l09_policy.go:321", #[⟨0, .data⟩, ⟨1, .data⟩, ⟨0, .phase⟩, ⟨1, .phase⟩, ⟨2, .phase⟩, ⟨3, .phase⟩, ⟨4, .phase⟩, ⟨5, .phase⟩, ⟨6, .phase⟩, ⟨7, .phase⟩, ⟨8, .phase⟩, ⟨9, .phase⟩, ⟨10, .phase⟩, ⟨11, .phase⟩, ⟨12, .phase⟩, ⟨13, .phase⟩], none⟩
def st9o15 : Oper := ⟨some 49, .fieldAddr 73 (.tmp 48) 1, 0, "l09_policy.go:321", #[⟨14, .data⟩, ⟨0, .phase⟩, ⟨1, .phase⟩, ⟨2, .phase⟩, ⟨3, .phase⟩, ⟨4, .phase⟩, ⟨5, .phase⟩, ⟨6, .phase⟩, ⟨7, .phase⟩, ⟨8, .phase⟩, ⟨9, .phase⟩, ⟨10, .phase⟩, ⟨11, .phase⟩, ⟨12, .phase⟩, ⟨13, .phase⟩], none⟩
def st9o16 : Oper := ⟨none, .store 70 (.tmp 49) (.tmp 47), 0, "l09_policy.go:321", #[⟨15, .data⟩, ⟨13, .data⟩, ⟨13, .chain⟩, ⟨0, .phase⟩, ⟨1, .phase⟩, ⟨2, .phase⟩, ⟨3, .phase⟩, ⟨4, .phase⟩, ⟨5, .phase⟩, ⟨6, .phase⟩, ⟨7, .phase⟩, ⟨8, .phase⟩, ⟨9, .phase⟩, ⟨10, .phase⟩, ⟨11, .phase⟩, ⟨12, .phase⟩, ⟨13, .phase⟩], none⟩
def st9O : Array Oper := #[st9o0, st9o1, st9o2, st9o3, st9o4, st9o5, st9o6, st9o7, st9o8, st9o9, st9o10, st9o11, st9o12, st9o13, st9o14, st9o15, st9o16]
structure st9P where
  (W0 w0 : World)
  (c : Nat)
  (a : Option Addr)
  (len cap p gS cS nS kS : Nat)
  (fS : Nat → Value)
  (RS : Nat → St)
  (eS : St)
  (xS : List ByteArray)
  (s1 s2 s5 s6 s7 s8 s9 s10 s11 s12 s13 s14 s15 s16 s17 s18 s19 s20 s21 s22 s23 s24 s25 s26 s27 s28 s29 s30 s31 s32 s33 s34 s35 s36 s37 s38 s39 s40 s41 s42 s43 s44 s45 s46 s47 s48 s49 s50 s51 s52 s53 s54 s55 s56 s57 s58 s59 s60 s61 s62 s63 s64 s65 s66 s67 s68 s69 s70 s71 s72 s73 s74 s75 s76 s77 s78 s79 s80 s81 s82 s83 s84 s85 s86 s87 s88 s89 s90 s91 s92 s93 s94 s95 s96 s97 s98 s99 s100 s101 : Value)
def st9T (P : st9P) (X7 : Nat) (R9 : Nat) (x11 : ByteArray) (X12 : Nat) (G : Nat) (CP : Nat) (oo : Option Nat) (pp : Nat) (b0 b1 b2 b3 b4 b5 b6 b7 b8 b9 b10 b11 b12 b13 b14 b15 b16 : Bool) : Array Value := #[.pointer (some ⟨P.c, 0, none⟩), P.s1, P.s2, .slice (some ⟨P.gS, 0, none⟩) P.nS P.cS, .int .i64 (P.kS : Int), P.s5, P.s6, P.s7, P.s8, P.s9, P.s10, P.s11, P.s12, P.s13, P.s14, P.s15, P.s16, P.s17, P.s18, P.s19, P.s20, P.s21, P.s22, P.s23, P.s24, P.s25, P.s26, P.s27, P.s28, P.s29, P.s30, P.s31, P.s32, P.s33, sel b0 (.slice (some ⟨P.gS, 0, none⟩) P.nS P.cS) (P.s34), sel b1 (.int .i64 (P.kS : Int)) (P.s35), sel b2 (.slice (some ⟨P.gS, 0, none⟩) P.nS P.cS) (P.s36), sel b3 (.int .i64 (P.kS : Int)) (P.s37), sel b4 (.pointer (some ⟨P.gS, P.kS * 5, none⟩)) (P.s38), sel b5 (.pointer (some ⟨P.gS, P.kS * 5 + 1, none⟩)) (P.s39), sel b6 (.slice (P.RS P.kS).wo.ad (P.RS P.kS).wo.n (P.RS P.kS).wo.cap) (P.s40), sel b7 (.slice (some ⟨X7, 0, none⟩) 3 3) (P.s41), sel b8 (.pointer (some ⟨P.c, 0, none⟩)) (P.s42), sel b9 (.int .i64 (R9 : Int)) (P.s43), sel b10 (.pointer (some ⟨X7, R9, none⟩)) (P.s44), sel b11 (.string x11) (P.s45), sel b12 (.slice (some ⟨X12, 0, none⟩) 1 1) (P.s46), sel b13 (.slice (some ⟨G, 0, none⟩) (P.xS.length + 1) CP) (P.s47), sel b14 (.pointer (some ⟨P.gS, P.kS * 5, none⟩)) (P.s48), sel b15 (.pointer (some ⟨P.gS, P.kS * 5 + 1, none⟩)) (P.s49), P.s50, P.s51, P.s52, P.s53, P.s54, P.s55, P.s56, P.s57, P.s58, P.s59, P.s60, P.s61, P.s62, P.s63, P.s64, P.s65, P.s66, P.s67, P.s68, P.s69, P.s70, P.s71, P.s72, P.s73, P.s74, P.s75, P.s76, P.s77, P.s78, P.s79, P.s80, P.s81, P.s82, P.s83, P.s84, P.s85, P.s86, P.s87, P.s88, P.s89, P.s90, P.s91, P.s92, P.s93, P.s94, P.s95, P.s96, P.s97, P.s98, P.s99, P.s100, P.s101]
def st9F (P : st9P) (X7 : Nat) (R9 : Nat) (x11 : ByteArray) (X12 : Nat) (G : Nat) (CP : Nat) (oo : Option Nat) (pp : Nat) (b0 b1 b2 b3 b4 b5 b6 b7 b8 b9 b10 b11 b12 b13 b14 b15 b16 : Bool) (w : World) : Prop := (Src P.W0 w P.c P.a P.len P.cap pp) ∧ (pp ≤ P.p + 40 * (b9.toNat)) ∧ (b16 = false → SX P.W0 P.w0 w P.c P.gS P.cS P.nS P.kS P.fS P.RS P.eS oo) ∧ (b13 = false → OwnStrs w P.w0.heap.size (.slice (P.RS P.kS).wo.ad (P.RS P.kS).wo.n (P.RS P.kS).wo.cap) P.xS ∧ oo = (Value.slice (P.RS P.kS).wo.ad (P.RS P.kS).wo.n (P.RS P.kS).wo.cap).ownBlock) ∧ (b13 = true → OwnStrs w P.w0.heap.size (.slice (some ⟨G, 0, none⟩) (P.xS.length + 1) CP) (P.xS ++ [x11]) ∧ oo = some G ∧ G ≠ P.gS) ∧ (b16 = true → SX P.W0 P.w0 w P.c P.gS P.cS P.nS P.kS (putF P.fS (P.kS * 5 + 1) (.slice (some ⟨G, 0, none⟩) (P.xS.length + 1) CP)) (stU P.RS P.kS { (P.RS P.kS) with wo := ⟨some ⟨G, 0, none⟩, P.xS.length + 1, CP, atB (P.xS ++ [x11])⟩ }) P.eS (some G)) ∧ (b7 = true → b11 = false → RowAt w X7 9 #[.string ⟨#[]⟩, .string ⟨#[97, 44, 98]⟩, .string ⟨#[97, 32, 98]⟩] ∧ P.w0.heap.size ≤ X7) ∧ (b9 = true → R9 < 3) ∧ (b11 = true → x11.size ≤ 3) ∧ (b12 = true → b13 = false → RowAt w X12 9 #[.string x11]) ∧ (P.p ≤ 900000 ∧ P.kS < P.nS ∧ P.xS.length ≤ 1000000 ∧ P.c < P.w0.heap.size ∧ P.w0.heap.size ≤ P.gS ∧ P.W0.heap.size ≤ P.w0.heap.size) ∧ (∀ g, (Value.slice (P.RS P.kS).wo.ad (P.RS P.kS).wo.n (P.RS P.kS).wo.cap).ownBlock = some g → P.w0.heap.size ≤ g ∧ g ≠ P.gS)
def st9I (P : st9P) (l : Array Bool) (f : Act) (w : World) : Prop :=
  ∃ (b0 b1 b2 b3 b4 b5 b6 b7 b8 b9 b10 b11 b12 b13 b14 b15 b16 : Bool) (X7 : Nat) (R9 : Nat) (x11 : ByteArray) (X12 : Nat) (G : Nat) (CP : Nat) (oo : Option Nat) (pp : Nat), l = #[b0, b1, b2, b3, b4, b5, b6, b7, b8, b9, b10, b11, b12, b13, b14, b15, b16] ∧ f = { tmps := st9T P X7 R9 x11 X12 G CP oo pp b0 b1 b2 b3 b4 b5 b6 b7 b8 b9 b10 b11 b12 b13 b14 b15 b16, defers := [] } ∧ st9F P X7 R9 x11 X12 G CP oo pp b0 b1 b2 b3 b4 b5 b6 b7 b8 b9 b10 b11 b12 b13 b14 b15 b16 w
theorem st9M {P : st9P} {b0 b1 b2 b3 b4 b5 b6 b7 b8 b9 b10 b11 b12 b13 b14 b15 b16 : Bool} (X7 : Nat) (R9 : Nat) (x11 : ByteArray) (X12 : Nat) (G : Nat) (CP : Nat) (oo : Option Nat) (pp : Nat) {l : Array Bool} {f : Act} {w : World} (hl : l = #[b0, b1, b2, b3, b4, b5, b6, b7, b8, b9, b10, b11, b12, b13, b14, b15, b16]) (hf : f = { tmps := st9T P X7 R9 x11 X12 G CP oo pp b0 b1 b2 b3 b4 b5 b6 b7 b8 b9 b10 b11 b12 b13 b14 b15 b16, defers := [] }) (h : st9F P X7 R9 x11 X12 G CP oo pp b0 b1 b2 b3 b4 b5 b6 b7 b8 b9 b10 b11 b12 b13 b14 b15 b16 w) : st9I P l f w := ⟨b0, b1, b2, b3, b4, b5, b6, b7, b8, b9, b10, b11, b12, b13, b14, b15, b16, X7, R9, x11, X12, G, CP, oo, pp, hl, hf, h⟩
set_option maxRecDepth 20000 in
set_option maxHeartbeats 20000000 in
theorem st9_step {Q : Exit → Act → World → Prop} (P : st9P) (l : Array Bool) (f : Act) (w : World) (hC : Closed st9O l) (hI : st9I P l f w) (i : Nat) (h0 : l.getD i true = false) (o : Oper) (ho : st9O[i]? = some o) (h1 : ∀ e ∈ o.after, Region.binds .any e = true → l.getD e.on false = true) : wpOp Tryz.prog st9O Q i (st9I P (l.setIfInBounds i true)) f w := by
  obtain ⟨b0, b1, b2, b3, b4, b5, b6, b7, b8, b9, b10, b11, b12, b13, b14, b15, b16, X7, R9, x11, X12, G, CP, oo, pp, rfl, rfl, hF⟩ := hI
  have hi : i < 17 := by
    rcases Nat.lt_or_ge i 17 with h | h
    · exact h
    · rw [show st9O[i]? = none from Array.getElem?_eq_none h] at ho; cases ho
  rcases (by omega : i = 0 ∨ i = 1 ∨ i = 2 ∨ i = 3 ∨ i = 4 ∨ i = 5 ∨ i = 6 ∨ i = 7 ∨ i = 8 ∨ i = 9 ∨ i = 10 ∨ i = 11 ∨ i = 12 ∨ i = 13 ∨ i = 14 ∨ i = 15 ∨ i = 16) with rfl | rfl | rfl | rfl | rfl | rfl | rfl | rfl | rfl | rfl | rfl | rfl | rfl | rfl | rfl | rfl | rfl
  · obtain rfl : st9o0 = o := Option.some.inj ho
    obtain rfl : b0 = false := h0
    have hn := wayN_all hC (i := 0) rfl [(14, 0), (15, 0), (16, 0)] [] nk rfl; repeat (obtain ⟨rfl, hn⟩ := hn)
    obtain ⟨hS, hp, hX, hO1, hO2, hY, hT7, hR9, hx11, hB, hk, hob⟩ := hF
    refine wpOp_step (o := st9o0) rfl (fun K hK => ?_)
    replace hK := hid hK
    simp only [st9o0, st9T, sel_f]
    go_simp
    exact hK.out _ _ (st9M X7 R9 x11 X12 G CP oo pp rfl rfl ⟨hS, hp, hX, hO1, hO2, hY, hT7, hR9, hx11, hB, hk, hob⟩)
  · obtain rfl : st9o1 = o := Option.some.inj ho
    obtain rfl : b1 = false := h0
    have hn := wayN_all hC (i := 1) rfl [(14, 1), (15, 1), (16, 1)] [] nk rfl; repeat (obtain ⟨rfl, hn⟩ := hn)
    obtain ⟨hS, hp, hX, hO1, hO2, hY, hT7, hR9, hx11, hB, hk, hob⟩ := hF
    refine wpOp_step (o := st9o1) rfl (fun K hK => ?_)
    replace hK := hid hK
    simp only [st9o1, st9T, sel_f]
    go_simp
    exact hK.out _ _ (st9M X7 R9 x11 X12 G CP oo pp rfl rfl ⟨hS, hp, hX, hO1, hO2, hY, hT7, hR9, hx11, hB, hk, hob⟩)
  · obtain rfl : st9o2 = o := Option.some.inj ho
    obtain rfl : b2 = false := h0
    have hn := wayN_all hC (i := 2) rfl [(4, 2), (5, 4), (6, 5), (13, 6), (14, 2), (15, 2), (16, 2)] [] nk rfl; repeat (obtain ⟨rfl, hn⟩ := hn)
    obtain ⟨hS, hp, hX, hO1, hO2, hY, hT7, hR9, hx11, hB, hk, hob⟩ := hF
    refine wpOp_step (o := st9o2) rfl (fun K hK => ?_)
    replace hK := hid hK
    simp only [st9o2, st9T, sel_f]
    go_simp
    exact hK.out _ _ (st9M X7 R9 x11 X12 G CP oo pp rfl rfl ⟨hS, hp, hX, hO1, hO2, hY, hT7, hR9, hx11, hB, hk, hob⟩)
  · obtain rfl : st9o3 = o := Option.some.inj ho
    obtain rfl : b3 = false := h0
    have hn := wayN_all hC (i := 3) rfl [(4, 3), (5, 4), (6, 5), (13, 6), (14, 3), (15, 3), (16, 3)] [] nk rfl; repeat (obtain ⟨rfl, hn⟩ := hn)
    obtain ⟨hS, hp, hX, hO1, hO2, hY, hT7, hR9, hx11, hB, hk, hob⟩ := hF
    refine wpOp_step (o := st9o3) rfl (fun K hK => ?_)
    replace hK := hid hK
    simp only [st9o3, st9T, sel_f]
    go_simp
    exact hK.out _ _ (st9M X7 R9 x11 X12 G CP oo pp rfl rfl ⟨hS, hp, hX, hO1, hO2, hY, hT7, hR9, hx11, hB, hk, hob⟩)
  · obtain rfl : st9o4 = o := Option.some.inj ho
    obtain rfl : b4 = false := h0
    have hn := wayP_all (o := st9o4) hC h1 [(3, none), (2, none)] [] nk rfl; repeat (obtain ⟨rfl, hn⟩ := hn)
    have hn := wayN_all hC (i := 4) rfl [(5, 4), (6, 5), (13, 6), (14, 4), (15, 4), (16, 4)] [] nk rfl; repeat (obtain ⟨rfl, hn⟩ := hn)
    obtain ⟨hS, hp, hX, hO1, hO2, hY, hT7, hR9, hx11, hB, hk, hob⟩ := hF
    have r0 : (P.kS : Int) < (P.nS : Int) := by omega
    refine wpOp_step (o := st9o4) rfl (fun K hK => ?_)
    replace hK := hid hK
    simp only [st9o4, st9T, sel_t, sel_f]
    go_simp
    exact hK.out _ _ (st9M X7 R9 x11 X12 G CP oo pp rfl rfl ⟨hS, hp, hX, hO1, hO2, hY, hT7, hR9, hx11, hB, hk, hob⟩)
  · obtain rfl : st9o5 = o := Option.some.inj ho
    obtain rfl : b5 = false := h0
    have hn := wayP_all (o := st9o5) hC h1 [(4, none), (2, some 4), (3, some 4)] [] nk rfl; repeat (obtain ⟨rfl, hn⟩ := hn)
    have hn := wayN_all hC (i := 5) rfl [(6, 5), (13, 6), (14, 5), (15, 5), (16, 5)] [] nk rfl; repeat (obtain ⟨rfl, hn⟩ := hn)
    obtain ⟨hS, hp, hX, hO1, hO2, hY, hT7, hR9, hx11, hB, hk, hob⟩ := hF
    refine wpOp_step (o := st9o5) rfl (fun K hK => ?_)
    replace hK := hid hK
    simp only [st9o5, st9T, sel_t, sel_f]
    go_simp
    exact hK.out _ _ (st9M X7 R9 x11 X12 G CP oo pp rfl rfl ⟨hS, hp, hX, hO1, hO2, hY, hT7, hR9, hx11, hB, hk, hob⟩)
  · obtain rfl : st9o6 = o := Option.some.inj ho
    obtain rfl : b6 = false := h0
    have hn := wayP_all (o := st9o6) hC h1 [(5, none), (4, some 5), (2, some 4), (3, some 4)] [] nk rfl; repeat (obtain ⟨rfl, hn⟩ := hn)
    have hn := wayN_all hC (i := 6) rfl [(13, 6), (14, 6), (15, 6), (16, 6)] [] nk rfl; repeat (obtain ⟨rfl, hn⟩ := hn)
    obtain ⟨hS, hp, hX, hO1, hO2, hY, hT7, hR9, hx11, hB, hk, hob⟩ := hF
    have c2 := (hX rfl).at_ (P.kS * 5 + 1) (by omega)
    rw [stF1] at c2
    refine wpOp_step (o := st9o6) rfl (fun K hK => ?_)
    replace hK := hid hK
    simp only [st9o6, st9T, sel_t, sel_f]
    go_simp
    exact hK.out _ _ (st9M X7 R9 x11 X12 G CP oo pp rfl rfl ⟨hS, hp, hX, hO1, hO2, hY, hT7, hR9, hx11, hB, hk, hob⟩)
  · obtain rfl : st9o7 = o := Option.some.inj ho
    obtain rfl : b7 = false := h0
    have hn := wayN_all hC (i := 7) rfl [(10, 7), (11, 10), (12, 11), (13, 12), (14, 7), (15, 7), (16, 7)] [] nk rfl; repeat (obtain ⟨rfl, hn⟩ := hn)
    obtain ⟨hS, hp, hX, hO1, hO2, hY, hT7, hR9, hx11, hB, hk, hob⟩ := hF
    refine wpOp_step (o := st9o7) rfl (fun K hK => ?_)
    replace hK := hid hK
    simp only [st9o7, st9T, sel_f]
    go_simp
    exact hK.out _ _ (st9M w.heap.size R9 x11 X12 G CP oo pp rfl rfl ⟨hS.alloc _, hp, fun h => (hX h).alloc _, fun h => ⟨World.ownsRow.alloc (hO1 h).1 _, (hO1 h).2⟩, fun h => Bool.noConfusion h, fun h => Bool.noConfusion h, fun _ _ => ⟨RowAt.new w _ _, (hX rfl).gr.size⟩, hR9, fun h => Bool.noConfusion h, fun h => Bool.noConfusion h, hk, hob⟩)
  · obtain rfl : st9o8 = o := Option.some.inj ho
    obtain rfl : b8 = false := h0
    have hn := wayN_all hC (i := 8) rfl [(9, 8), (10, 9), (11, 10), (12, 11), (13, 9), (14, 8), (15, 8), (16, 8)] [] nk rfl; repeat (obtain ⟨rfl, hn⟩ := hn)
    obtain ⟨hS, hp, hX, hO1, hO2, hY, hT7, hR9, hx11, hB, hk, hob⟩ := hF
    simp only [Bool.toNat_false] at hp
    refine wpOp_step (o := st9o8) rfl (fun K hK => ?_)
    replace hK := hid hK
    simp only [st9o8, st9T, sel_f]
    go_simp
    exact hK.out _ _ (st9M X7 R9 x11 X12 G CP oo pp rfl rfl ⟨hS, hp, hX, hO1, hO2, hY, hT7, hR9, hx11, hB, hk, hob⟩)
  · obtain rfl : st9o9 = o := Option.some.inj ho
    obtain rfl : b9 = false := h0
    have hn := wayP_all (o := st9o9) hC h1 [(8, none)] [] nk rfl; repeat (obtain ⟨rfl, hn⟩ := hn)
    have hn := wayN_all hC (i := 9) rfl [(10, 9), (11, 10), (12, 11), (13, 9), (14, 9), (15, 9), (16, 9)] [] nk rfl; repeat (obtain ⟨rfl, hn⟩ := hn)
    obtain ⟨hS, hp, hX, hO1, hO2, hY, hT7, hR9, hx11, hB, hk, hob⟩ := hF
    simp only [Bool.toNat_false] at hp
    have hcB : P.c < P.w0.heap.size := hk.2.2.2.1
    refine wpOp_step (o := st9o9) rfl (fun K hK => ?_)
    replace hK := hid hK
    simp only [st9o9, st9T, sel_t, sel_f]
    go_simp
    refine (n_all P.W0 _ P.c P.a P.len P.cap pp 3 hS (by omega) (by omega) (by omega)).mono ?_
    rintro e w2 ⟨⟨r, rfl, h20, h21⟩, hs2, hg2⟩
    obtain ⟨R, rfl⟩ := Int.eq_ofNat_of_zero_le h20
    dsimp only
    exact hK.out _ _ (st9M X7 R x11 X12 G CP oo (pp + 1) rfl rfl ⟨hs2, by show pp + 1 ≤ P.p + 40 * (1); omega, fun h => (hX h).grow hg2, fun h => ⟨(hO1 h).1.keptC hg2 hk.2.2.2.1, (hO1 h).2⟩, fun h => Bool.noConfusion h, fun h => Bool.noConfusion h, fun h e => ⟨rowF (hT7 h e).1 hg2 (by have := (hT7 h e).2; omega), (hT7 h e).2⟩, fun _ => by omega, fun h => Bool.noConfusion h, fun h => Bool.noConfusion h, hk, hob⟩)
  · obtain rfl : st9o10 = o := Option.some.inj ho
    obtain rfl : b10 = false := h0
    have hn := wayP_all (o := st9o10) hC h1 [(9, none), (7, none), (8, some 9)] [] nk rfl; repeat (obtain ⟨rfl, hn⟩ := hn)
    have hn := wayN_all hC (i := 10) rfl [(11, 10), (12, 11), (13, 12), (14, 10), (15, 10), (16, 10)] [] nk rfl; repeat (obtain ⟨rfl, hn⟩ := hn)
    obtain ⟨hS, hp, hX, hO1, hO2, hY, hT7, hR9, hx11, hB, hk, hob⟩ := hF
    simp only [Bool.toNat_true] at hp
    have r := hR9 rfl
    have r0 : (R9 : Int) < 3 := by omega
    refine wpOp_step (o := st9o10) rfl (fun K hK => ?_)
    replace hK := hid hK
    simp only [st9o10, st9T, sel_t, sel_f]
    go_simp
    exact hK.out _ _ (st9M X7 R9 x11 X12 G CP oo pp rfl rfl ⟨hS, hp, hX, hO1, hO2, hY, hT7, hR9, hx11, hB, hk, hob⟩)
  · obtain rfl : st9o11 = o := Option.some.inj ho
    obtain rfl : b11 = false := h0
    have hn := wayP_all (o := st9o11) hC h1 [(10, none), (7, some 10), (9, some 10), (8, some 9)] [] nk rfl; repeat (obtain ⟨rfl, hn⟩ := hn)
    have hn := wayN_all hC (i := 11) rfl [(12, 11), (13, 12), (14, 11), (15, 11), (16, 11)] [] nk rfl; repeat (obtain ⟨rfl, hn⟩ := hn)
    obtain ⟨hS, hp, hX, hO1, hO2, hY, hT7, hR9, hx11, hB, hk, hob⟩ := hF
    simp only [Bool.toNat_true] at hp
    obtain ⟨k2, hk2, hkk⟩ := st9_tab7 R9 (hR9 rfl)
    have c2 := ((hT7 rfl rfl).1.cell R9).trans hk2
    refine wpOp_step (o := st9o11) rfl (fun K hK => ?_)
    replace hK := hid hK
    simp only [st9o11, st9T, sel_t, sel_f]
    go_simp
    exact hK.out _ _ (st9M X7 R9 k2 X12 G CP oo pp rfl rfl ⟨hS, hp, hX, hO1, fun h => Bool.noConfusion h, fun h => Bool.noConfusion h, fun _ h => Bool.noConfusion h, hR9, fun _ => hkk, fun h => Bool.noConfusion h, hk, hob⟩)
  · obtain rfl : st9o12 = o := Option.some.inj ho
    obtain rfl : b12 = false := h0
    have hn := wayP_all (o := st9o12) hC h1 [(11, none), (10, some 11), (7, some 10), (9, some 10), (8, some 9)] [] nk rfl; repeat (obtain ⟨rfl, hn⟩ := hn)
    have hn := wayN_all hC (i := 12) rfl [(13, 12), (14, 12), (15, 12), (16, 12)] [] nk rfl; repeat (obtain ⟨rfl, hn⟩ := hn)
    obtain ⟨hS, hp, hX, hO1, hO2, hY, hT7, hR9, hx11, hB, hk, hob⟩ := hF
    simp only [Bool.toNat_true] at hp
    refine wpOp_step (o := st9o12) rfl (fun K hK => ?_)
    replace hK := hid hK
    simp only [st9o12, st9T, sel_t, sel_f]
    go_simp
    exact hK.out _ _ (st9M X7 R9 x11 w.heap.size G CP oo pp rfl rfl ⟨hS.alloc _, hp, fun h => (hX h).alloc _, fun h => ⟨World.ownsRow.alloc (hO1 h).1 _, (hO1 h).2⟩, fun h => Bool.noConfusion h, fun h => Bool.noConfusion h, fun _ h => Bool.noConfusion h, hR9, hx11, fun _ _ => RowAt.new w _ _, hk, hob⟩)
  · obtain rfl : st9o13 = o := Option.some.inj ho
    obtain rfl : b13 = false := h0
    have hn := wayP_all (o := st9o13) hC h1 [(12, none), (9, none), (6, none), (11, some 12), (10, some 11), (7, some 10), (8, some 9), (5, some 6), (4, some 5), (2, some 4), (3, some 4)] [] nk rfl; repeat (obtain ⟨rfl, hn⟩ := hn)
    have hn := wayN_all hC (i := 13) rfl [(14, 13), (15, 13), (16, 13)] [] nk rfl; repeat (obtain ⟨rfl, hn⟩ := hn)
    obtain ⟨hS, hp, hX, hO1, hO2, hY, hT7, hR9, hx11, hB, hk, hob⟩ := hF
    simp only [Bool.toNat_true] at hp
    refine wpOp_step (o := st9o13) rfl (fun K hK => ?_)
    replace hK := hid hK
    have hO := hO1 rfl
    have hsx := hX rfl
    have hbb := hk
    refine step_append_strE P.w0.heap.size _ (by rfl) _ _ (by rfl) _ P.xS x11 (by rfl) hO.1 hsx.gr.size X12 (hB rfl rfl) (by rfl) (by omega) ?_
    intro g3 c3 w3 hO3 hg3 hl3
    have hl4 : oo = some g3 ∨ w.heap.size ≤ g3 := by rw [hO.2]; exact hl3.imp id (fun e => by omega)
    have hob2 : ∀ b, oo = some b → P.w0.heap.size ≤ b ∧ b ≠ P.gS := by rw [hO.2]; exact hob
    have hg4 : w.grownBy w3 oo := by rw [hO.2]; exact hg3
    have hne : g3 ≠ P.gS := by
      rcases hl4 with e | e
      · exact (hob2 g3 e).2
      · have := hsx.row.lt; omega
    exact hK.out _ _ (st9M X7 R9 x11 X12 g3 c3 (some g3) pp rfl rfl ⟨hS.far hg4 (fun e => by have := (hob2 P.c e.symm).1; omega) (fun g e => by have := (hob2 g e).1; omega), hp, fun h => hsx.lies hg4 hl4 hob2, fun h => Bool.noConfusion h, fun _ => ⟨hO3, rfl, hne⟩, fun h => Bool.noConfusion h, fun _ h => Bool.noConfusion h, hR9, hx11, fun _ h => Bool.noConfusion h, hk, hob⟩)
  · obtain rfl : st9o14 = o := Option.some.inj ho
    obtain rfl : b14 = false := h0
    have hn := wayP_all (o := st9o14) hC h1 [(13, none), (12, none), (11, none), (10, none), (9, none), (8, none), (7, none), (6, none), (5, none), (4, none), (3, none), (2, none), (1, none), (0, none)] [] nk rfl; repeat (obtain ⟨rfl, hn⟩ := hn)
    have hn := wayN_all hC (i := 14) rfl [(15, 14), (16, 15)] [] nk rfl; repeat (obtain ⟨rfl, hn⟩ := hn)
    obtain ⟨hS, hp, hX, hO1, hO2, hY, hT7, hR9, hx11, hB, hk, hob⟩ := hF
    simp only [Bool.toNat_true] at hp
    have r0 : (P.kS : Int) < (P.nS : Int) := by omega
    refine wpOp_step (o := st9o14) rfl (fun K hK => ?_)
    replace hK := hid hK
    simp only [st9o14, st9T, sel_t, sel_f]
    go_simp
    exact hK.out _ _ (st9M X7 R9 x11 X12 G CP oo pp rfl rfl ⟨hS, hp, hX, hO1, hO2, hY, hT7, hR9, hx11, hB, hk, hob⟩)
  · obtain rfl : st9o15 = o := Option.some.inj ho
    obtain rfl : b15 = false := h0
    have hn := wayP_all (o := st9o15) hC h1 [(14, none), (13, none), (12, none), (11, none), (10, none), (9, none), (8, none), (7, none), (6, none), (5, none), (4, none), (3, none), (2, none), (1, none), (0, none)] [] nk rfl; repeat (obtain ⟨rfl, hn⟩ := hn)
    have hn := wayN_all hC (i := 15) rfl [(16, 15)] [] nk rfl; repeat (obtain ⟨rfl, hn⟩ := hn)
    obtain ⟨hS, hp, hX, hO1, hO2, hY, hT7, hR9, hx11, hB, hk, hob⟩ := hF
    simp only [Bool.toNat_true] at hp
    refine wpOp_step (o := st9o15) rfl (fun K hK => ?_)
    replace hK := hid hK
    simp only [st9o15, st9T, sel_t, sel_f]
    go_simp
    exact hK.out _ _ (st9M X7 R9 x11 X12 G CP oo pp rfl rfl ⟨hS, hp, hX, hO1, hO2, hY, hT7, hR9, hx11, hB, hk, hob⟩)
  · obtain rfl : st9o16 = o := Option.some.inj ho
    obtain rfl : b16 = false := h0
    have hn := wayP_all (o := st9o16) hC h1 [(15, none), (13, none), (12, none), (11, none), (10, none), (9, none), (8, none), (7, none), (6, none), (5, none), (4, none), (3, none), (2, none), (1, none), (0, none), (14, some 15)] [] nk rfl; repeat (obtain ⟨rfl, hn⟩ := hn)
    obtain ⟨hS, hp, hX, hO1, hO2, hY, hT7, hR9, hx11, hB, hk, hob⟩ := hF
    simp only [Bool.toNat_true] at hp
    have hsx := hX rfl
    have ncc := hsx.nc
    have q1 := hsx.row.at_ (P.kS * 5 + 1) (by omega)
    have q2 := hsx.row.free (P.kS * 5 + 1)
    obtain ⟨hO, hoo, hne⟩ := hO2 rfl
    rw [hoo] at hsx
    refine wpOp_step (o := st9o16) rfl (fun K hK => ?_)
    replace hK := hid hK
    simp only [st9o16, st9T, sel_t]
    go_simp
    exact hK.out _ _ (st9M X7 R9 x11 X12 G CP oo pp rfl rfl ⟨hS.set (by omega) _ _, hp, fun h => Bool.noConfusion h, fun h => Bool.noConfusion h, fun _ => ⟨hO.setC (fun g e => by have e2 : G = g := Option.some.inj e; omega), hoo, hne⟩, fun _ => hsx.set (R' := (stU P.RS P.kS { (P.RS P.kS) with wo := ⟨some ⟨G, 0, none⟩, P.xS.length + 1, CP, atB (P.xS ++ [x11])⟩ })) _ _ (by rw [stF1, stU_k]) (fun q _ hq => stF_q _ _ P.kS 1 (by omega) (fun i hi => stU_o _ _ _ hi) (by rw [stU_k]; intro _; first | rfl | omega) (by rw [stU_k]; intro _; first | rfl | omega) (by rw [stU_k]; intro _; first | rfl | omega) (by rw [stU_k]; intro _; first | rfl | omega) (by rw [stU_k]; intro _; first | rfl | omega) q hq) (fun i _ hi => stU_o _ _ _ hi), fun _ h => Bool.noConfusion h, hR9, hx11, fun _ h => Bool.noConfusion h, hk, hob⟩)
set_option maxRecDepth 20000 in
set_option maxHeartbeats 4000000 in
theorem st9_wp {Q : Exit → Act → World → Prop} {rid : Nat} (W0 w0 : World) (c : Nat) (a : Option Addr) (len cap p gS cS nS kS : Nat) (fS : Nat → Value) (RS : Nat → St) (eS : St) (xS : List ByteArray) {s1 s2 s5 s6 s7 s8 s9 s10 s11 s12 s13 s14 s15 s16 s17 s18 s19 s20 s21 s22 s23 s24 s25 s26 s27 s28 s29 s30 s31 s32 s33 s34 s35 s36 s37 s38 s39 s40 s41 s42 s43 s44 s45 s46 s47 s48 s49 s50 s51 s52 s53 s54 s55 s56 s57 s58 s59 s60 s61 s62 s63 s64 s65 s66 s67 s68 s69 s70 s71 s72 s73 s74 s75 s76 s77 s78 s79 s80 s81 s82 s83 s84 s85 s86 s87 s88 s89 s90 s91 s92 s93 s94 s95 s96 s97 s98 s99 s100 s101 : Value} (w : World) (hS : Src W0 w c a len cap p) (hX : SX W0 w0 w c gS cS nS kS fS RS eS (Value.slice (RS kS).wo.ad (RS kS).wo.n (RS kS).wo.cap).ownBlock) (hO1 : OwnStrs w w0.heap.size (.slice (RS kS).wo.ad (RS kS).wo.n (RS kS).wo.cap) xS) (hk : p ≤ 900000 ∧ kS < nS ∧ xS.length ≤ 1000000 ∧ c < w0.heap.size ∧ w0.heap.size ≤ gS ∧ W0.heap.size ≤ w0.heap.size) (hob : ∀ g, (Value.slice (RS kS).wo.ad (RS kS).wo.n (RS kS).wo.cap).ownBlock = some g → w0.heap.size ≤ g ∧ g ≠ gS)
    (fin : ∀ (X7 : Nat) (R9 : Nat) (x11 : ByteArray) (X12 : Nat) (G : Nat) (CP : Nat) (oo : Option Nat) (pp : Nat) (w' : World), (Src W0 w' c a len cap pp) → (pp ≤ p + 40 * (1)) → (OwnStrs w' w0.heap.size (.slice (some ⟨G, 0, none⟩) (xS.length + 1) CP) (xS ++ [x11]) ∧ oo = some G ∧ G ≠ gS) → (SX W0 w0 w' c gS cS nS kS (putF fS (kS * 5 + 1) (.slice (some ⟨G, 0, none⟩) (xS.length + 1) CP)) (stU RS kS { (RS kS) with wo := ⟨some ⟨G, 0, none⟩, xS.length + 1, CP, atB (xS ++ [x11])⟩ }) eS (some G)) → (R9 < 3) → (x11.size ≤ 3) → (p ≤ 900000 ∧ kS < nS ∧ xS.length ≤ 1000000 ∧ c < w0.heap.size ∧ w0.heap.size ≤ gS ∧ W0.heap.size ≤ w0.heap.size) → (∀ g, (Value.slice (RS kS).wo.ad (RS kS).wo.n (RS kS).wo.cap).ownBlock = some g → w0.heap.size ≤ g ∧ g ≠ gS) → Q .normal { tmps := #[.pointer (some ⟨c, 0, none⟩), s1, s2, .slice (some ⟨gS, 0, none⟩) nS cS, .int .i64 (kS : Int), s5, s6, s7, s8, s9, s10, s11, s12, s13, s14, s15, s16, s17, s18, s19, s20, s21, s22, s23, s24, s25, s26, s27, s28, s29, s30, s31, s32, s33, .slice (some ⟨gS, 0, none⟩) nS cS, .int .i64 (kS : Int), .slice (some ⟨gS, 0, none⟩) nS cS, .int .i64 (kS : Int), .pointer (some ⟨gS, kS * 5, none⟩), .pointer (some ⟨gS, kS * 5 + 1, none⟩), .slice (RS kS).wo.ad (RS kS).wo.n (RS kS).wo.cap, .slice (some ⟨X7, 0, none⟩) 3 3, .pointer (some ⟨c, 0, none⟩), .int .i64 (R9 : Int), .pointer (some ⟨X7, R9, none⟩), .string x11, .slice (some ⟨X12, 0, none⟩) 1 1, .slice (some ⟨G, 0, none⟩) (xS.length + 1) CP, .pointer (some ⟨gS, kS * 5, none⟩), .pointer (some ⟨gS, kS * 5 + 1, none⟩), s50, s51, s52, s53, s54, s55, s56, s57, s58, s59, s60, s61, s62, s63, s64, s65, s66, s67, s68, s69, s70, s71, s72, s73, s74, s75, s76, s77, s78, s79, s80, s81, s82, s83, s84, s85, s86, s87, s88, s89, s90, s91, s92, s93, s94, s95, s96, s97, s98, s99, s100, s101], defers := [] } w') :
    (Code.region rid st9O true).wp Tryz.prog Q { tmps := #[.pointer (some ⟨c, 0, none⟩), s1, s2, .slice (some ⟨gS, 0, none⟩) nS cS, .int .i64 (kS : Int), s5, s6, s7, s8, s9, s10, s11, s12, s13, s14, s15, s16, s17, s18, s19, s20, s21, s22, s23, s24, s25, s26, s27, s28, s29, s30, s31, s32, s33, s34, s35, s36, s37, s38, s39, s40, s41, s42, s43, s44, s45, s46, s47, s48, s49, s50, s51, s52, s53, s54, s55, s56, s57, s58, s59, s60, s61, s62, s63, s64, s65, s66, s67, s68, s69, s70, s71, s72, s73, s74, s75, s76, s77, s78, s79, s80, s81, s82, s83, s84, s85, s86, s87, s88, s89, s90, s91, s92, s93, s94, s95, s96, s97, s98, s99, s100, s101], defers := [] } w := by
  refine wp_region_inv (ops := st9O) (st9I ⟨W0, w0, c, a, len, cap, p, gS, cS, nS, kS, fS, RS, eS, xS, s1, s2, s5, s6, s7, s8, s9, s10, s11, s12, s13, s14, s15, s16, s17, s18, s19, s20, s21, s22, s23, s24, s25, s26, s27, s28, s29, s30, s31, s32, s33, s34, s35, s36, s37, s38, s39, s40, s41, s42, s43, s44, s45, s46, s47, s48, s49, s50, s51, s52, s53, s54, s55, s56, s57, s58, s59, s60, s61, s62, s63, s64, s65, s66, s67, s68, s69, s70, s71, s72, s73, s74, s75, s76, s77, s78, s79, s80, s81, s82, s83, s84, s85, s86, s87, s88, s89, s90, s91, s92, s93, s94, s95, s96, s97, s98, s99, s100, s101⟩) (by kernel_rfl) (by kernel_rfl) (fun l f v hI => ?_) (fun l f v hC hI i h0 o ho h1 => st9_step ⟨W0, w0, c, a, len, cap, p, gS, cS, nS, kS, fS, RS, eS, xS, s1, s2, s5, s6, s7, s8, s9, s10, s11, s12, s13, s14, s15, s16, s17, s18, s19, s20, s21, s22, s23, s24, s25, s26, s27, s28, s29, s30, s31, s32, s33, s34, s35, s36, s37, s38, s39, s40, s41, s42, s43, s44, s45, s46, s47, s48, s49, s50, s51, s52, s53, s54, s55, s56, s57, s58, s59, s60, s61, s62, s63, s64, s65, s66, s67, s68, s69, s70, s71, s72, s73, s74, s75, s76, s77, s78, s79, s80, s81, s82, s83, s84, s85, s86, s87, s88, s89, s90, s91, s92, s93, s94, s95, s96, s97, s98, s99, s100, s101⟩ l f v hC hI i h0 o ho h1) (fun l f v hI hall => ?_) ?_
  · obtain ⟨_, _, _, _, _, _, _, _, _, _, _, _, _, _, _, _, _, _, _, _, _, _, _, _, _, rfl, _⟩ := hI; rfl
  · obtain ⟨b0, b1, b2, b3, b4, b5, b6, b7, b8, b9, b10, b11, b12, b13, b14, b15, b16, X7, R9, x11, X12, G, CP, oo, pp, rfl, rfl, hS, hp, hX, hO1, hO2, hY, hT7, hR9, hx11, hB, hk, hob⟩ := hI
    have hn := allT hall [0, 1, 2, 3, 4, 5, 6, 7, 8, 9, 10, 11, 12, 13, 14, 15, 16] rfl; repeat (obtain ⟨rfl, hn⟩ := hn)
    exact fin X7 R9 x11 X12 G CP oo pp v hS hp (hO2 rfl) (hY rfl) (hR9 rfl) (hx11 rfl) hk hob
  · exact ⟨false, false, false, false, false, false, false, false, false, false, false, false, false, false, false, false, false, 0, 0, ⟨#[]⟩, 0, 0, 0, (Value.slice (RS kS).wo.ad (RS kS).wo.n (RS kS).wo.cap).ownBlock, p, rfl, rfl, hS.drew, Nat.le_add_right _ _, fun _ => hX.drew, fun _ => ⟨World.ownsRow.drew hO1, rfl⟩, fun h => Bool.noConfusion h, fun h => Bool.noConfusion h, fun h => Bool.noConfusion h, fun h => Bool.noConfusion h, fun h => Bool.noConfusion h, fun h => Bool.noConfusion h, hk, hob⟩
end Go.Proofs.YtmjolkagkeonfaaGreatDoor
