import Derived.Test.YtkcjigelenofhaaGreatDoorG13
import Derived.Test.YtkcjigelenofhaaGreatDoorG8
namespace Go.Proofs.YtkcjigelenofhaaGreatDoor
open Go.RowKit
set_option linter.unusedVariables false
def si5o0 : Oper := ⟨some 41, .fieldAddr 25 (.tmp 12) 2, 0, "l10_request.go:586", #[], none⟩
def si5o1 : Oper := ⟨some 42, .load 23 (.tmp 41), 23, "l10_request.go:586", #[⟨0, .data⟩], none⟩
def si5o2 : Oper := ⟨some 43, .load 72 (.tmp 11), 72, "l10_request.go:586", #[], none⟩
def si5o3 : Oper := ⟨some 44, .call { callee := .value (.func 43), args := #[.tmp 43], argTypes := #[72] }, 23, "l10_request.go:586", #[⟨2, .data⟩], none⟩
def si5o4 : Oper := ⟨some 45, .call { callee := .value (.func 42), args := #[.tmp 44], argTypes := #[23] }, 23, "l10_request.go:586", #[⟨3, .data⟩, ⟨3, .chain⟩], none⟩
def si5o5 : Oper := ⟨some 46, .call { callee := .builtin Builtin.append, args := #[.tmp 42, .tmp 45], argTypes := #[23, 23] }, 23, "l10_request.go:586", #[⟨1, .data⟩, ⟨4, .data⟩, ⟨4, .chain⟩], none⟩
def si5o6 : Oper := ⟨some 47, .fieldAddr 25 (.tmp 12) 2, 0, "l10_request.go:586", #[⟨0, .phase⟩, ⟨1, .phase⟩, ⟨2, .phase⟩, ⟨3, .phase⟩, ⟨4, .phase⟩, ⟨5, .phase⟩], none⟩
def si5o7 : Oper := ⟨none, .store 23 (.tmp 47) (.tmp 46), 0, "l10_request.go:586", #[⟨6, .data⟩, ⟨5, .data⟩, ⟨5, .chain⟩, ⟨0, .phase⟩, ⟨1, .phase⟩, ⟨2, .phase⟩, ⟨3, .phase⟩, ⟨4, .phase⟩, ⟨5, .phase⟩], none⟩
def si5O : Array Oper := #[si5o0, si5o1, si5o2, si5o3, si5o4, si5o5, si5o6, si5o7]
structure si5P where
 (w0 : World)
 (X5 X6 X10 X11 X12 B BH : Nat)
 (mt pt bd id sec : ByteArray)
 (r5 : Array Value)
 (aL : Option Addr)
 (cL : Nat)
 (L : List Hp)
 (aH : Option Addr)
 (nH cH : Nat)
 (H : List Hp)
 (tA : Option Addr)
 (m mc : Nat)
 (nw ls : Int)
 (PL : List Hp)
 (s0 s1 s7 s8 s9 s13 s14 s15 s16 s17 s18 s19 s20 s21 s22 s23 s24 s25 s26 s27 s28 s29 s30 s31 s32 s33 s34 s35 s36 s37 s38 s39 s40 s41 s42 s43 s44 s45 s46 s47 s48 s49 s50 s51 s52 s53 s54 s55 s56 s57 s58 s59 s60 s61 s62 s63 s64 s65 : Value)
def si5T (P : si5P) (XP : Nat) (aC : Option Addr) (cC : Nat) (BC : Nat) (G : Nat) (CP : Nat) (b0 b1 b2 b3 b4 b5 b6 b7 : Bool) : Array Value := #[P.s0, P.s1, .slice P.tA P.m P.mc, .int .i64 P.nw, .int .i64 P.ls, .pointer (some ⟨P.X5, 0, none⟩), .pointer (some ⟨P.X6, 0, none⟩), P.s7, P.s8, P.s9, .pointer (some ⟨P.X10, 0, none⟩), .pointer (some ⟨P.X11, 0, none⟩), .pointer (some ⟨P.X12, 0, none⟩), P.s13, P.s14, P.s15, P.s16, P.s17, P.s18, P.s19, P.s20, P.s21, P.s22, P.s23, P.s24, P.s25, P.s26, P.s27, P.s28, P.s29, P.s30, P.s31, P.s32, P.s33, P.s34, P.s35, P.s36, P.s37, P.s38, P.s39, P.s40, selS b0 (.pointer (some ⟨P.X12, 2, none⟩)) (P.s41), selS b1 (.slice P.aL P.L.length P.cL) (P.s42), selS b2 (.agg #[.string P.id, .int .i64 P.nw, .int .i64 P.ls, .slice P.tA P.m P.mc]) (P.s43), selS b3 (.slice (some ⟨XP, 0, none⟩) 4 4) (P.s44), selS b4 (.slice aC 4 cC) (P.s45), selS b5 (.slice (some ⟨G, 0, none⟩) (P.L.length + 4) CP) (P.s46), selS b6 (.pointer (some ⟨P.X12, 2, none⟩)) (P.s47), P.s48, P.s49, P.s50, P.s51, P.s52, P.s53, P.s54, P.s55, P.s56, P.s57, P.s58, P.s59, P.s60, P.s61, P.s62, P.s63, P.s64, P.s65]
def si5F (P : si5P) (XP : Nat) (aC : Option Addr) (cC : Nat) (BC : Nat) (G : Nat) (CP : Nat) (b0 b1 b2 b3 b4 b5 b6 b7 : Bool) (w : World) : Prop := (Below P.w0.heap.size P.w0 w) ∧ (RowAt w P.X12 25 (cond b7 #[.string P.mt, .string P.pt, .slice (some ⟨G, 0, none⟩) (P.L.length + 4) CP, .slice P.aH P.nH P.cH, .string P.bd] #[.string P.mt, .string P.pt, .slice P.aL P.L.length P.cL, .slice P.aH P.nH P.cH, .string P.bd])) ∧ (RowAt w P.X11 72 #[.string P.id, .int .i64 P.nw, .int .i64 P.ls, .slice P.tA P.m P.mc]) ∧ (RowAt w P.X6 27 #[.string P.id, .string P.sec]) ∧ (RowAt w P.X5 25 P.r5) ∧ (RowAt w P.X10 25 #[.string ⟨#[]⟩, .string ⟨#[]⟩, .slice none 0 0, .slice none 0 0, .string ⟨#[]⟩]) ∧ (b5 = false → OwnHp w P.B (.slice P.aL P.L.length P.cL) P.L) ∧ (b5 = true → OwnHp w P.B (.slice (some ⟨G, 0, none⟩) (P.L.length + 4) CP) (P.L ++ P.PL)) ∧ (OwnHp w P.BH (.slice P.aH P.nH P.cH) P.H ∧ ((Value.slice P.aH P.nH P.cH).ownBlock = none ∨ (Value.slice P.aH P.nH P.cH).ownBlock ≠ (Value.slice P.aL P.L.length P.cL).ownBlock)) ∧ (b5 = true → (Value.slice P.aH P.nH P.cH).ownBlock = none ∨ (Value.slice P.aH P.nH P.cH).ownBlock ≠ some G) ∧ (P.B ≤ w.heap.size) ∧ (P.L.length ≤ 1000) ∧ (P.w0.heap.size ≤ P.B ∧ P.w0.heap.size ≤ P.X12 ∧ P.X12 ≠ P.X6 ∧ P.X12 ≠ P.X5 ∧ P.X12 ≠ P.X10 ∧ P.X12 ≠ P.X11) ∧ (b3 = true → b4 = false → Hps w (some ⟨XP, 0, none⟩) 4 4 (hAt P.PL)) ∧ (b4 = true → b5 = false → OwnHp w BC (.slice aC 4 cC) P.PL) ∧ (P.PL.length = 4) ∧ (∀ wx, Below P.w0.heap.size P.w0 wx → Calls Tryz.prog 43 #[.agg #[.string P.id, .int .i64 P.nw, .int .i64 P.ls, .slice P.tA P.m P.mc]] wx fun e w' => ∃ X, e = .returned (.slice (some ⟨X, 0, none⟩) 4 4) ∧ Hps w' (some ⟨X, 0, none⟩) 4 4 (hAt P.PL) ∧ Below wx.heap.size wx w') ∧ (∀ wx X, Hps wx (some ⟨X, 0, none⟩) 4 4 (hAt P.PL) → Calls Tryz.prog 42 #[.slice (some ⟨X, 0, none⟩) 4 4] wx fun e w' => (∃ a' c', e = .returned (.slice a' 4 c') ∧ OwnHp w' wx.heap.size (.slice a' 4 c') P.PL) ∧ Below wx.heap.size wx w')
def si5I (P : si5P) (l : Array Bool) (f : Act) (w : World) : Prop :=
 ∃ (b0 b1 b2 b3 b4 b5 b6 b7 : Bool) (XP : Nat) (aC : Option Addr) (cC : Nat) (BC : Nat) (G : Nat) (CP : Nat), l = #[b0, b1, b2, b3, b4, b5, b6, b7] ∧ f = { tmps := si5T P XP aC cC BC G CP b0 b1 b2 b3 b4 b5 b6 b7, defers := [] } ∧ si5F P XP aC cC BC G CP b0 b1 b2 b3 b4 b5 b6 b7 w
theorem si5M {P : si5P} {b0 b1 b2 b3 b4 b5 b6 b7 : Bool} (XP : Nat) (aC : Option Addr) (cC : Nat) (BC : Nat) (G : Nat) (CP : Nat) {l : Array Bool} {f : Act} {w : World} (hl : l = #[b0, b1, b2, b3, b4, b5, b6, b7]) (hf : f = { tmps := si5T P XP aC cC BC G CP b0 b1 b2 b3 b4 b5 b6 b7, defers := [] }) (h : si5F P XP aC cC BC G CP b0 b1 b2 b3 b4 b5 b6 b7 w) : si5I P l f w := ⟨b0, b1, b2, b3, b4, b5, b6, b7, XP, aC, cC, BC, G, CP, hl, hf, h⟩
set_option maxRecDepth 20000 in
set_option maxHeartbeats 20000000 in
theorem si5_step {Q : Exit → Act → World → Prop} (P : si5P) (l : Array Bool) (f : Act) (w : World) (hC : Closed si5O l) (hI : si5I P l f w) (i : Nat) (h0 : l.getD i true = false) (o : Oper) (ho : si5O[i]? = some o) (h1 : ∀ e ∈ o.after, Region.binds .any e = true → l.getD e.on false = true) : wpOp Tryz.prog si5O Q i (si5I P (l.setIfInBounds i true)) f w := by
 obtain ⟨b0, b1, b2, b3, b4, b5, b6, b7, XP, aC, cC, BC, G, CP, rfl, rfl, hF⟩ := hI
 have hi : i < 8 := by
  rcases Nat.lt_or_ge i 8 with h | h
  · exact h
  · rw [show si5O[i]? = none from Array.getElem?_eq_none h] at ho; cases ho
 rcases (by omega : i = 0 ∨ i = 1 ∨ i = 2 ∨ i = 3 ∨ i = 4 ∨ i = 5 ∨ i = 6 ∨ i = 7) with rfl | rfl | rfl | rfl | rfl | rfl | rfl | rfl
 · obtain rfl : si5o0 = o := Option.some.inj ho
   obtain rfl : b0 = false := h0
   have hn := wayN_all hC (i := 0) rfl [(1, 0), (5, 1), (6, 0), (7, 0)] [] nk rfl; repeat (obtain ⟨rfl, hn⟩ := hn)
   obtain ⟨hB, hx12, hx11, hx6, hx5, hx10, ho1, ho2, hoH, haH, hBz, hLn, hst, hXP, hXS, hPL, hkp, hkc⟩ := hF
   refine wpOp_step (o := si5o0) rfl (fun K hK => ?_)
   replace hK := hid hK
   simp only [si5o0, si5T, selS_f]
   go_simp
   exact hK.out _ _ (si5M XP aC cC BC G CP rfl rfl ⟨hB, hx12, hx11, hx6, hx5, hx10, ho1, ho2, hoH, haH, hBz, hLn, hst, hXP, hXS, hPL, hkp, hkc⟩)
 · obtain rfl : si5o1 = o := Option.some.inj ho
   obtain rfl : b1 = false := h0
   have hn := wayP_all (o := si5o1) hC h1 [(0, none)] [] nk rfl; repeat (obtain ⟨rfl, hn⟩ := hn)
   have hn := wayN_all hC (i := 1) rfl [(5, 1), (6, 1), (7, 1)] [] nk rfl; repeat (obtain ⟨rfl, hn⟩ := hn)
   obtain ⟨hB, hx12, hx11, hx6, hx5, hx10, ho1, ho2, hoH, haH, hBz, hLn, hst, hXP, hXS, hPL, hkp, hkc⟩ := hF
   have q := hx12.cell 2
   refine wpOp_step (o := si5o1) rfl (fun K hK => ?_)
   replace hK := hid hK
   simp only [si5o1, si5T, selS_t, selS_f]
   go_simp
   exact hK.out _ _ (si5M XP aC cC BC G CP rfl rfl ⟨hB, hx12, hx11, hx6, hx5, hx10, ho1, ho2, hoH, haH, hBz, hLn, hst, hXP, hXS, hPL, hkp, hkc⟩)
 · obtain rfl : si5o2 = o := Option.some.inj ho
   obtain rfl : b2 = false := h0
   have hn := wayN_all hC (i := 2) rfl [(3, 2), (4, 3), (5, 4), (6, 2), (7, 2)] [] nk rfl; repeat (obtain ⟨rfl, hn⟩ := hn)
   obtain ⟨hB, hx12, hx11, hx6, hx5, hx10, ho1, ho2, hoH, haH, hBz, hLn, hst, hXP, hXS, hPL, hkp, hkc⟩ := hF
   have q0 := hx11.cell 0
   have q1 := hx11.cell 1
   have q2 := hx11.cell 2
   have q3 := hx11.cell 3
   refine wpOp_step (o := si5o2) rfl (fun K hK => ?_)
   replace hK := hid hK
   simp only [si5o2, si5T, selS_f]
   go_simp
   exact hK.out _ _ (si5M XP aC cC BC G CP rfl rfl ⟨hB, hx12, hx11, hx6, hx5, hx10, ho1, ho2, hoH, haH, hBz, hLn, hst, hXP, hXS, hPL, hkp, hkc⟩)
 · obtain rfl : si5o3 = o := Option.some.inj ho
   obtain rfl : b3 = false := h0
   have hn := wayP_all (o := si5o3) hC h1 [(2, none)] [] nk rfl; repeat (obtain ⟨rfl, hn⟩ := hn)
   have hn := wayN_all hC (i := 3) rfl [(4, 3), (5, 4), (6, 3), (7, 3)] [] nk rfl; repeat (obtain ⟨rfl, hn⟩ := hn)
   obtain ⟨hB, hx12, hx11, hx6, hx5, hx10, ho1, ho2, hoH, haH, hBz, hLn, hst, hXP, hXS, hPL, hkp, hkc⟩ := hF
   refine wpOp_step (o := si5o3) rfl (fun K hK => ?_)
   replace hK := hid hK
   simp only [si5o3, si5T, selS_t, selS_f]
   go_simp
   refine (hkp _ hB).mono ?_
   rintro e w2 ⟨X9, rfl, hp2, hb2⟩
   dsimp only
   exact hK.out _ _ (si5M X9 aC cC BC G CP rfl rfl ⟨hB.trans (hb2.mono hB.size), RowAt.nxS hb2 hx12, RowAt.nxS hb2 hx11, RowAt.nxS hb2 hx6, RowAt.nxS hb2 hx5, RowAt.nxS hb2 hx10, fun h => OwnHp.next hb2 (ho1 h), fun h => Bool.noConfusion h, ⟨OwnHp.next hb2 hoH.1, hoH.2⟩, haH, Nat.le_trans hBz hb2.size, hLn, hst, fun _ _ => hp2, fun h => Bool.noConfusion h, hPL, hkp, hkc⟩)
 · obtain rfl : si5o4 = o := Option.some.inj ho
   obtain rfl : b4 = false := h0
   have hn := wayP_all (o := si5o4) hC h1 [(3, none), (2, some 3)] [] nk rfl; repeat (obtain ⟨rfl, hn⟩ := hn)
   have hn := wayN_all hC (i := 4) rfl [(5, 4), (6, 4), (7, 4)] [] nk rfl; repeat (obtain ⟨rfl, hn⟩ := hn)
   obtain ⟨hB, hx12, hx11, hx6, hx5, hx10, ho1, ho2, hoH, haH, hBz, hLn, hst, hXP, hXS, hPL, hkp, hkc⟩ := hF
   refine wpOp_step (o := si5o4) rfl (fun K hK => ?_)
   replace hK := hid hK
   simp only [si5o4, si5T, selS_t, selS_f]
   go_simp
   refine (hkc _ XP (hXP rfl rfl)).mono ?_
   rintro e w2 ⟨⟨a9, c9, rfl, hO9⟩, hb2⟩
   dsimp only
   exact hK.out _ _ (si5M XP a9 c9 w.heap.size G CP rfl rfl ⟨hB.trans (hb2.mono hB.size), RowAt.nxS hb2 hx12, RowAt.nxS hb2 hx11, RowAt.nxS hb2 hx6, RowAt.nxS hb2 hx5, RowAt.nxS hb2 hx10, fun h => OwnHp.next hb2 (ho1 h), fun h => Bool.noConfusion h, ⟨OwnHp.next hb2 hoH.1, hoH.2⟩, haH, Nat.le_trans hBz hb2.size, hLn, hst, fun h e => Bool.noConfusion e, fun _ _ => hO9, hPL, hkp, hkc⟩)
 · obtain rfl : si5o5 = o := Option.some.inj ho
   obtain rfl : b5 = false := h0
   have hn := wayP_all (o := si5o5) hC h1 [(4, none), (1, none), (3, some 4), (2, some 3), (0, some 1)] [] nk rfl; repeat (obtain ⟨rfl, hn⟩ := hn)
   have hn := wayN_all hC (i := 5) rfl [(6, 5), (7, 5)] [] nk rfl; repeat (obtain ⟨rfl, hn⟩ := hn)
   obtain ⟨hB, hx12, hx11, hx6, hx5, hx10, ho1, ho2, hoH, haH, hBz, hLn, hst, hXP, hXS, hPL, hkp, hkc⟩ := hF
   refine wpOp_step (o := si5o5) rfl (fun K hK => ?_)
   replace hK := hid hK
   have hO := ho1 rfl
   refine step_append_hpsO P.B _ (by rfl) _ _ 23 (by rfl) Tryz.underlying23 Tryz.infoHpG _ P.L P.PL (by omega) (by rfl) hO hBz BC aC cC 4 (hXS rfl rfl) hPL (by rfl) (by omega) ?_
   intro g3 c3 w3 hO3 hg3 hl3
   exact hK.out _ _ (si5M XP aC cC BC g3 c3 rfl rfl ⟨hB.grown hg3 hB.size (fun g hg => by have := (World.ownsRow.lt hO _ hg).1; omega), row_grown hx12 hg3 (OwnHp.neRowS hO hx12 (by decide)), row_grown hx11 hg3 (OwnHp.neRowS hO hx11 (by decide)), row_grown hx6 hg3 (OwnHp.neRowS hO hx6 (by decide)), row_grown hx5 hg3 (OwnHp.neRowS hO hx5 (by decide)), row_grown hx10 hg3 (OwnHp.neRowS hO hx10 (by decide)), fun h => Bool.noConfusion h, fun _ => hO3, ⟨World.ownsRow.kept hoH.1 hg3 hoH.2, hoH.2⟩, fun _ => apartG hoH.1 hoH.2 hl3, Nat.le_trans hBz hg3.size, hLn, hst, fun h e => Bool.noConfusion e, fun h e => Bool.noConfusion e, hPL, hkp, hkc⟩)
 · obtain rfl : si5o6 = o := Option.some.inj ho
   obtain rfl : b6 = false := h0
   have hn := wayP_all (o := si5o6) hC h1 [(5, none), (4, none), (3, none), (2, none), (1, none), (0, none)] [] nk rfl; repeat (obtain ⟨rfl, hn⟩ := hn)
   have hn := wayN_all hC (i := 6) rfl [(7, 6)] [] nk rfl; repeat (obtain ⟨rfl, hn⟩ := hn)
   obtain ⟨hB, hx12, hx11, hx6, hx5, hx10, ho1, ho2, hoH, haH, hBz, hLn, hst, hXP, hXS, hPL, hkp, hkc⟩ := hF
   refine wpOp_step (o := si5o6) rfl (fun K hK => ?_)
   replace hK := hid hK
   simp only [si5o6, si5T, selS_t, selS_f]
   go_simp
   exact hK.out _ _ (si5M XP aC cC BC G CP rfl rfl ⟨hB, hx12, hx11, hx6, hx5, hx10, ho1, ho2, hoH, haH, hBz, hLn, hst, hXP, hXS, hPL, hkp, hkc⟩)
 · obtain rfl : si5o7 = o := Option.some.inj ho
   obtain rfl : b7 = false := h0
   have hn := wayP_all (o := si5o7) hC h1 [(6, none), (5, none), (4, none), (3, none), (2, none), (1, none), (0, none)] [] nk rfl; repeat (obtain ⟨rfl, hn⟩ := hn)
   obtain ⟨hB, hx12, hx11, hx6, hx5, hx10, ho1, ho2, hoH, haH, hBz, hLn, hst, hXP, hXS, hPL, hkp, hkc⟩ := hF
   have h12 : RowAt w P.X12 25 #[.string P.mt, .string P.pt, .slice P.aL P.L.length P.cL, .slice P.aH P.nH P.cH, .string P.bd] := hx12
   have q := h12.cell 2
   have f := h12.free 2
   refine wpOp_step (o := si5o7) rfl (fun K hK => ?_)
   replace hK := hid hK
   simp only [si5o7, si5T, selS_t]
   go_simp
   exact hK.out _ _ (si5M XP aC cC BC G CP rfl rfl ⟨hB.setCell (by simp; omega) _, h12.set 2 _, hx11.other ⟨P.X12, 2, none⟩ _ (by simp; omega), hx6.other ⟨P.X12, 2, none⟩ _ (by simp; omega), hx5.other ⟨P.X12, 2, none⟩ _ (by simp; omega), hx10.other ⟨P.X12, 2, none⟩ _ (by simp; omega), fun h => Bool.noConfusion h, fun h => OwnHp.setCellS (ho2 h) (OwnHp.neRowS (ho2 h) h12 (by decide)), ⟨OwnHp.setCellS hoH.1 (OwnHp.neRowS hoH.1 h12 (by decide)), hoH.2⟩, haH, by simp; omega, hLn, hst, fun h e => Bool.noConfusion e, fun h e => Bool.noConfusion e, hPL, hkp, hkc⟩)
set_option maxRecDepth 20000 in
set_option maxHeartbeats 4000000 in
theorem si5_wp {Q : Exit → Act → World → Prop} {rid : Nat} (w0 : World) (X5 X6 X10 X11 X12 B BH : Nat) (mt pt bd id sec : ByteArray) (r5 : Array Value) (aL : Option Addr) (cL : Nat) (L : List Hp) (aH : Option Addr) (nH cH : Nat) (H : List Hp) (tA : Option Addr) (m mc : Nat) (nw ls : Int) (PL : List Hp) {s0 s1 s7 s8 s9 s13 s14 s15 s16 s17 s18 s19 s20 s21 s22 s23 s24 s25 s26 s27 s28 s29 s30 s31 s32 s33 s34 s35 s36 s37 s38 s39 s40 s41 s42 s43 s44 s45 s46 s47 s48 s49 s50 s51 s52 s53 s54 s55 s56 s57 s58 s59 s60 s61 s62 s63 s64 s65 : Value} (w : World) (hB : Below w0.heap.size w0 w) (hx12 : RowAt w X12 25 #[.string mt, .string pt, .slice aL L.length cL, .slice aH nH cH, .string bd]) (hx11 : RowAt w X11 72 #[.string id, .int .i64 nw, .int .i64 ls, .slice tA m mc]) (hx6 : RowAt w X6 27 #[.string id, .string sec]) (hx5 : RowAt w X5 25 r5) (hx10 : RowAt w X10 25 #[.string ⟨#[]⟩, .string ⟨#[]⟩, .slice none 0 0, .slice none 0 0, .string ⟨#[]⟩]) (ho1 : OwnHp w B (.slice aL L.length cL) L) (hoH : OwnHp w BH (.slice aH nH cH) H ∧ ((Value.slice aH nH cH).ownBlock = none ∨ (Value.slice aH nH cH).ownBlock ≠ (Value.slice aL L.length cL).ownBlock)) (hBz : B ≤ w.heap.size) (hLn : L.length ≤ 1000) (hst : w0.heap.size ≤ B ∧ w0.heap.size ≤ X12 ∧ X12 ≠ X6 ∧ X12 ≠ X5 ∧ X12 ≠ X10 ∧ X12 ≠ X11) (hPL : PL.length = 4) (hkp : ∀ wx, Below w0.heap.size w0 wx → Calls Tryz.prog 43 #[.agg #[.string id, .int .i64 nw, .int .i64 ls, .slice tA m mc]] wx fun e w' => ∃ X, e = .returned (.slice (some ⟨X, 0, none⟩) 4 4) ∧ Hps w' (some ⟨X, 0, none⟩) 4 4 (hAt PL) ∧ Below wx.heap.size wx w') (hkc : ∀ wx X, Hps wx (some ⟨X, 0, none⟩) 4 4 (hAt PL) → Calls Tryz.prog 42 #[.slice (some ⟨X, 0, none⟩) 4 4] wx fun e w' => (∃ a' c', e = .returned (.slice a' 4 c') ∧ OwnHp w' wx.heap.size (.slice a' 4 c') PL) ∧ Below wx.heap.size wx w')
 (fin : ∀ (XP : Nat) (aC : Option Addr) (cC : Nat) (BC : Nat) (G : Nat) (CP : Nat) (w' : World), (Below w0.heap.size w0 w') → (RowAt w' X12 25 #[.string mt, .string pt, .slice (some ⟨G, 0, none⟩) (L.length + 4) CP, .slice aH nH cH, .string bd]) → (RowAt w' X11 72 #[.string id, .int .i64 nw, .int .i64 ls, .slice tA m mc]) → (RowAt w' X6 27 #[.string id, .string sec]) → (RowAt w' X5 25 r5) → (RowAt w' X10 25 #[.string ⟨#[]⟩, .string ⟨#[]⟩, .slice none 0 0, .slice none 0 0, .string ⟨#[]⟩]) → (OwnHp w' B (.slice (some ⟨G, 0, none⟩) (L.length + 4) CP) (L ++ PL)) → (OwnHp w' BH (.slice aH nH cH) H ∧ ((Value.slice aH nH cH).ownBlock = none ∨ (Value.slice aH nH cH).ownBlock ≠ (Value.slice aL L.length cL).ownBlock)) → ((Value.slice aH nH cH).ownBlock = none ∨ (Value.slice aH nH cH).ownBlock ≠ some G) → (B ≤ w'.heap.size) → (L.length ≤ 1000) → (w0.heap.size ≤ B ∧ w0.heap.size ≤ X12 ∧ X12 ≠ X6 ∧ X12 ≠ X5 ∧ X12 ≠ X10 ∧ X12 ≠ X11) → (PL.length = 4) → (∀ wx, Below w0.heap.size w0 wx → Calls Tryz.prog 43 #[.agg #[.string id, .int .i64 nw, .int .i64 ls, .slice tA m mc]] wx fun e w' => ∃ X, e = .returned (.slice (some ⟨X, 0, none⟩) 4 4) ∧ Hps w' (some ⟨X, 0, none⟩) 4 4 (hAt PL) ∧ Below wx.heap.size wx w') → (∀ wx X, Hps wx (some ⟨X, 0, none⟩) 4 4 (hAt PL) → Calls Tryz.prog 42 #[.slice (some ⟨X, 0, none⟩) 4 4] wx fun e w' => (∃ a' c', e = .returned (.slice a' 4 c') ∧ OwnHp w' wx.heap.size (.slice a' 4 c') PL) ∧ Below wx.heap.size wx w') → Q .normal { tmps := #[s0, s1, .slice tA m mc, .int .i64 nw, .int .i64 ls, .pointer (some ⟨X5, 0, none⟩), .pointer (some ⟨X6, 0, none⟩), s7, s8, s9, .pointer (some ⟨X10, 0, none⟩), .pointer (some ⟨X11, 0, none⟩), .pointer (some ⟨X12, 0, none⟩), s13, s14, s15, s16, s17, s18, s19, s20, s21, s22, s23, s24, s25, s26, s27, s28, s29, s30, s31, s32, s33, s34, s35, s36, s37, s38, s39, s40, .pointer (some ⟨X12, 2, none⟩), .slice aL L.length cL, .agg #[.string id, .int .i64 nw, .int .i64 ls, .slice tA m mc], .slice (some ⟨XP, 0, none⟩) 4 4, .slice aC 4 cC, .slice (some ⟨G, 0, none⟩) (L.length + 4) CP, .pointer (some ⟨X12, 2, none⟩), s48, s49, s50, s51, s52, s53, s54, s55, s56, s57, s58, s59, s60, s61, s62, s63, s64, s65], defers := [] } w') :
 (Code.region rid si5O true).wp Tryz.prog Q { tmps := #[s0, s1, .slice tA m mc, .int .i64 nw, .int .i64 ls, .pointer (some ⟨X5, 0, none⟩), .pointer (some ⟨X6, 0, none⟩), s7, s8, s9, .pointer (some ⟨X10, 0, none⟩), .pointer (some ⟨X11, 0, none⟩), .pointer (some ⟨X12, 0, none⟩), s13, s14, s15, s16, s17, s18, s19, s20, s21, s22, s23, s24, s25, s26, s27, s28, s29, s30, s31, s32, s33, s34, s35, s36, s37, s38, s39, s40, s41, s42, s43, s44, s45, s46, s47, s48, s49, s50, s51, s52, s53, s54, s55, s56, s57, s58, s59, s60, s61, s62, s63, s64, s65], defers := [] } w := by
 refine wp_region_inv (ops := si5O) (si5I ⟨w0, X5, X6, X10, X11, X12, B, BH, mt, pt, bd, id, sec, r5, aL, cL, L, aH, nH, cH, H, tA, m, mc, nw, ls, PL, s0, s1, s7, s8, s9, s13, s14, s15, s16, s17, s18, s19, s20, s21, s22, s23, s24, s25, s26, s27, s28, s29, s30, s31, s32, s33, s34, s35, s36, s37, s38, s39, s40, s41, s42, s43, s44, s45, s46, s47, s48, s49, s50, s51, s52, s53, s54, s55, s56, s57, s58, s59, s60, s61, s62, s63, s64, s65⟩) (by kernel_rfl) (by kernel_rfl) (fun l f v hI => ?_) (fun l f v hC hI i h0 o ho h1 => si5_step ⟨w0, X5, X6, X10, X11, X12, B, BH, mt, pt, bd, id, sec, r5, aL, cL, L, aH, nH, cH, H, tA, m, mc, nw, ls, PL, s0, s1, s7, s8, s9, s13, s14, s15, s16, s17, s18, s19, s20, s21, s22, s23, s24, s25, s26, s27, s28, s29, s30, s31, s32, s33, s34, s35, s36, s37, s38, s39, s40, s41, s42, s43, s44, s45, s46, s47, s48, s49, s50, s51, s52, s53, s54, s55, s56, s57, s58, s59, s60, s61, s62, s63, s64, s65⟩ l f v hC hI i h0 o ho h1) (fun l f v hI hall => ?_) ?_
 · obtain ⟨_, _, _, _, _, _, _, _, _, _, _, _, _, _, rfl, _⟩ := hI; rfl
 · obtain ⟨b0, b1, b2, b3, b4, b5, b6, b7, XP, aC, cC, BC, G, CP, rfl, rfl, hB, hx12, hx11, hx6, hx5, hx10, ho1, ho2, hoH, haH, hBz, hLn, hst, hXP, hXS, hPL, hkp, hkc⟩ := hI
   have hn := allT hall [0, 1, 2, 3, 4, 5, 6, 7] rfl; repeat (obtain ⟨rfl, hn⟩ := hn)
   exact fin XP aC cC BC G CP v hB hx12 hx11 hx6 hx5 hx10 (ho2 rfl) hoH (haH rfl) hBz hLn hst hPL hkp hkc
 · exact ⟨false, false, false, false, false, false, false, false, 0, none, 0, 0, 0, 0, rfl, rfl, hB.drew, hx12.drew, hx11.drew, hx6.drew, hx5.drew, hx10.drew, fun _ => World.ownsRow.drew ho1, fun h => Bool.noConfusion h, ⟨World.ownsRow.drew hoH.1, hoH.2⟩, fun h => Bool.noConfusion h, hBz, hLn, hst, fun h => Bool.noConfusion h, fun h => Bool.noConfusion h, hPL, hkp, hkc⟩
end Go.Proofs.YtkcjigelenofhaaGreatDoor
namespace Go.Proofs.YtkcjigelenofhaaGreatDoor
open Go.RowKit
set_option linter.unusedVariables false
def si7o0 : Oper := ⟨some 53, .fieldAddr 25 (.tmp 12) 2, 0, "l10_request.go:588", #[], none⟩
def si7o1 : Oper := ⟨some 54, .load 23 (.tmp 53), 23, "l10_request.go:588", #[⟨0, .data⟩], none⟩
def si7o2 : Oper := ⟨some 55, .move (.tmp 13), 2, "l10_request.go:588", #[], none⟩
def si7o3 : Oper := ⟨some 56, .call { callee := .value (.func 45), args := #[.tmp 55], argTypes := #[2] }, 9, "l10_request.go:588", #[⟨2, .data⟩], none⟩
def si7o4 : Oper := ⟨some 57, .build 66 #[(0, .const (.string { data := #[120, 45, 115, 117, 109] })), (1, .tmp 56)], 66, "l10_request.go:588", #[⟨3, .data⟩], none⟩
def si7o5 : Oper := ⟨some 58, .buildSlice 23 1 #[(0, .tmp 57)], 23, "l10_request.go:588", #[⟨4, .data⟩], none⟩
def si7o6 : Oper := ⟨some 59, .call { callee := .builtin Builtin.append, args := #[.tmp 54, .tmp 58], argTypes := #[23, 23] }, 23, "l10_request.go:588", #[⟨1, .data⟩, ⟨5, .data⟩, ⟨3, .chain⟩], none⟩
def si7o7 : Oper := ⟨some 60, .fieldAddr 25 (.tmp 12) 2, 0, "l10_request.go:588", #[⟨0, .phase⟩, ⟨1, .phase⟩, ⟨2, .phase⟩, ⟨3, .phase⟩, ⟨4, .phase⟩, ⟨5, .phase⟩, ⟨6, .phase⟩], none⟩
def si7o8 : Oper := ⟨none, .store 23 (.tmp 60) (.tmp 59), 0, "l10_request.go:588", #[⟨7, .data⟩, ⟨6, .data⟩, ⟨6, .chain⟩, ⟨0, .phase⟩, ⟨1, .phase⟩, ⟨2, .phase⟩, ⟨3, .phase⟩, ⟨4, .phase⟩, ⟨5, .phase⟩, ⟨6, .phase⟩], none⟩
def si7O : Array Oper := #[si7o0, si7o1, si7o2, si7o3, si7o4, si7o5, si7o6, si7o7, si7o8]
structure si7P where
 (w0 : World)
 (X5 X6 X10 X11 X12 B BH : Nat)
 (mt pt bd id sec : ByteArray)
 (r5 : Array Value)
 (aL : Option Addr)
 (cL : Nat)
 (L : List Hp)
 (aH : Option Addr)
 (nH cH : Nat)
 (H : List Hp)
 (tA : Option Addr)
 (m mc : Nat)
 (nw ls : Int)
 (SV : Int)
 (SM : ByteArray)
 (s0 s1 s7 s8 s9 s14 s15 s16 s17 s18 s19 s20 s21 s22 s23 s24 s25 s26 s27 s28 s29 s30 s31 s32 s33 s34 s35 s36 s37 s38 s39 s40 s41 s42 s43 s44 s45 s46 s47 s48 s49 s50 s51 s52 s53 s54 s55 s56 s57 s58 s59 s60 s61 s62 s63 s64 s65 : Value)
def si7T (P : si7P) (XS : Nat) (G : Nat) (CP : Nat) (b0 b1 b2 b3 b4 b5 b6 b7 b8 : Bool) : Array Value := #[P.s0, P.s1, .slice P.tA P.m P.mc, .int .i64 P.nw, .int .i64 P.ls, .pointer (some ⟨P.X5, 0, none⟩), .pointer (some ⟨P.X6, 0, none⟩), P.s7, P.s8, P.s9, .pointer (some ⟨P.X10, 0, none⟩), .pointer (some ⟨P.X11, 0, none⟩), .pointer (some ⟨P.X12, 0, none⟩), .int .i64 P.SV, P.s14, P.s15, P.s16, P.s17, P.s18, P.s19, P.s20, P.s21, P.s22, P.s23, P.s24, P.s25, P.s26, P.s27, P.s28, P.s29, P.s30, P.s31, P.s32, P.s33, P.s34, P.s35, P.s36, P.s37, P.s38, P.s39, P.s40, P.s41, P.s42, P.s43, P.s44, P.s45, P.s46, P.s47, P.s48, P.s49, P.s50, P.s51, P.s52, selS b0 (.pointer (some ⟨P.X12, 2, none⟩)) (P.s53), selS b1 (.slice P.aL P.L.length P.cL) (P.s54), selS b2 (.int .i64 P.SV) (P.s55), selS b3 (.string P.SM) (P.s56), selS b4 (.agg #[.string ⟨#[120, 45, 115, 117, 109]⟩, .string P.SM]) (P.s57), selS b5 (.slice (some ⟨XS, 0, none⟩) 1 1) (P.s58), selS b6 (.slice (some ⟨G, 0, none⟩) (P.L.length + 1) CP) (P.s59), selS b7 (.pointer (some ⟨P.X12, 2, none⟩)) (P.s60), P.s61, P.s62, P.s63, P.s64, P.s65]
def si7F (P : si7P) (XS : Nat) (G : Nat) (CP : Nat) (b0 b1 b2 b3 b4 b5 b6 b7 b8 : Bool) (w : World) : Prop := (Below P.w0.heap.size P.w0 w) ∧ (RowAt w P.X12 25 (cond b8 #[.string P.mt, .string P.pt, .slice (some ⟨G, 0, none⟩) (P.L.length + 1) CP, .slice P.aH P.nH P.cH, .string P.bd] #[.string P.mt, .string P.pt, .slice P.aL P.L.length P.cL, .slice P.aH P.nH P.cH, .string P.bd])) ∧ (RowAt w P.X11 72 #[.string P.id, .int .i64 P.nw, .int .i64 P.ls, .slice P.tA P.m P.mc]) ∧ (RowAt w P.X6 27 #[.string P.id, .string P.sec]) ∧ (RowAt w P.X5 25 P.r5) ∧ (RowAt w P.X10 25 #[.string ⟨#[]⟩, .string ⟨#[]⟩, .slice none 0 0, .slice none 0 0, .string ⟨#[]⟩]) ∧ (b6 = false → OwnHp w P.B (.slice P.aL P.L.length P.cL) P.L) ∧ (b6 = true → OwnHp w P.B (.slice (some ⟨G, 0, none⟩) (P.L.length + 1) CP) (P.L ++ [(⟨⟨#[120, 45, 115, 117, 109]⟩, P.SM⟩ : Hp)])) ∧ (OwnHp w P.BH (.slice P.aH P.nH P.cH) P.H ∧ ((Value.slice P.aH P.nH P.cH).ownBlock = none ∨ (Value.slice P.aH P.nH P.cH).ownBlock ≠ (Value.slice P.aL P.L.length P.cL).ownBlock)) ∧ (b6 = true → (Value.slice P.aH P.nH P.cH).ownBlock = none ∨ (Value.slice P.aH P.nH P.cH).ownBlock ≠ some G) ∧ (P.B ≤ w.heap.size) ∧ (P.L.length ≤ 1000) ∧ (P.w0.heap.size ≤ P.B ∧ P.w0.heap.size ≤ P.X12 ∧ P.X12 ≠ P.X6 ∧ P.X12 ≠ P.X5 ∧ P.X12 ≠ P.X10 ∧ P.X12 ≠ P.X11) ∧ (b5 = true → b6 = false → RowAt w XS 66 (hpL [(⟨⟨#[120, 45, 115, 117, 109]⟩, P.SM⟩ : Hp)]).toArray) ∧ (∀ wx, Below P.w0.heap.size P.w0 wx → Calls Tryz.prog 45 #[.int .i64 P.SV] wx fun e w' => e = .returned (.string P.SM) ∧ Below wx.heap.size wx w')
def si7I (P : si7P) (l : Array Bool) (f : Act) (w : World) : Prop :=
 ∃ (b0 b1 b2 b3 b4 b5 b6 b7 b8 : Bool) (XS : Nat) (G : Nat) (CP : Nat), l = #[b0, b1, b2, b3, b4, b5, b6, b7, b8] ∧ f = { tmps := si7T P XS G CP b0 b1 b2 b3 b4 b5 b6 b7 b8, defers := [] } ∧ si7F P XS G CP b0 b1 b2 b3 b4 b5 b6 b7 b8 w
theorem si7M {P : si7P} {b0 b1 b2 b3 b4 b5 b6 b7 b8 : Bool} (XS : Nat) (G : Nat) (CP : Nat) {l : Array Bool} {f : Act} {w : World} (hl : l = #[b0, b1, b2, b3, b4, b5, b6, b7, b8]) (hf : f = { tmps := si7T P XS G CP b0 b1 b2 b3 b4 b5 b6 b7 b8, defers := [] }) (h : si7F P XS G CP b0 b1 b2 b3 b4 b5 b6 b7 b8 w) : si7I P l f w := ⟨b0, b1, b2, b3, b4, b5, b6, b7, b8, XS, G, CP, hl, hf, h⟩
set_option maxRecDepth 20000 in
set_option maxHeartbeats 20000000 in
theorem si7_step {Q : Exit → Act → World → Prop} (P : si7P) (l : Array Bool) (f : Act) (w : World) (hC : Closed si7O l) (hI : si7I P l f w) (i : Nat) (h0 : l.getD i true = false) (o : Oper) (ho : si7O[i]? = some o) (h1 : ∀ e ∈ o.after, Region.binds .any e = true → l.getD e.on false = true) : wpOp Tryz.prog si7O Q i (si7I P (l.setIfInBounds i true)) f w := by
 obtain ⟨b0, b1, b2, b3, b4, b5, b6, b7, b8, XS, G, CP, rfl, rfl, hF⟩ := hI
 have hi : i < 9 := by
  rcases Nat.lt_or_ge i 9 with h | h
  · exact h
  · rw [show si7O[i]? = none from Array.getElem?_eq_none h] at ho; cases ho
 rcases (by omega : i = 0 ∨ i = 1 ∨ i = 2 ∨ i = 3 ∨ i = 4 ∨ i = 5 ∨ i = 6 ∨ i = 7 ∨ i = 8) with rfl | rfl | rfl | rfl | rfl | rfl | rfl | rfl | rfl
 · obtain rfl : si7o0 = o := Option.some.inj ho
   obtain rfl : b0 = false := h0
   have hn := wayN_all hC (i := 0) rfl [(1, 0), (6, 1), (7, 0), (8, 0)] [] nk rfl; repeat (obtain ⟨rfl, hn⟩ := hn)
   obtain ⟨hB, hx12, hx11, hx6, hx5, hx10, ho1, ho2, hoH, haH, hBz, hLn, hst, hXS, hks⟩ := hF
   refine wpOp_step (o := si7o0) rfl (fun K hK => ?_)
   replace hK := hid hK
   simp only [si7o0, si7T, selS_f]
   go_simp
   exact hK.out _ _ (si7M XS G CP rfl rfl ⟨hB, hx12, hx11, hx6, hx5, hx10, ho1, ho2, hoH, haH, hBz, hLn, hst, hXS, hks⟩)
 · obtain rfl : si7o1 = o := Option.some.inj ho
   obtain rfl : b1 = false := h0
   have hn := wayP_all (o := si7o1) hC h1 [(0, none)] [] nk rfl; repeat (obtain ⟨rfl, hn⟩ := hn)
   have hn := wayN_all hC (i := 1) rfl [(6, 1), (7, 1), (8, 1)] [] nk rfl; repeat (obtain ⟨rfl, hn⟩ := hn)
   obtain ⟨hB, hx12, hx11, hx6, hx5, hx10, ho1, ho2, hoH, haH, hBz, hLn, hst, hXS, hks⟩ := hF
   have q := hx12.cell 2
   refine wpOp_step (o := si7o1) rfl (fun K hK => ?_)
   replace hK := hid hK
   simp only [si7o1, si7T, selS_t, selS_f]
   go_simp
   exact hK.out _ _ (si7M XS G CP rfl rfl ⟨hB, hx12, hx11, hx6, hx5, hx10, ho1, ho2, hoH, haH, hBz, hLn, hst, hXS, hks⟩)
 · obtain rfl : si7o2 = o := Option.some.inj ho
   obtain rfl : b2 = false := h0
   have hn := wayN_all hC (i := 2) rfl [(3, 2), (4, 3), (5, 4), (6, 3), (7, 2), (8, 2)] [] nk rfl; repeat (obtain ⟨rfl, hn⟩ := hn)
   obtain ⟨hB, hx12, hx11, hx6, hx5, hx10, ho1, ho2, hoH, haH, hBz, hLn, hst, hXS, hks⟩ := hF
   refine wpOp_step (o := si7o2) rfl (fun K hK => ?_)
   replace hK := hid hK
   simp only [si7o2, si7T, selS_f]
   go_simp
   exact hK.out _ _ (si7M XS G CP rfl rfl ⟨hB, hx12, hx11, hx6, hx5, hx10, ho1, ho2, hoH, haH, hBz, hLn, hst, hXS, hks⟩)
 · obtain rfl : si7o3 = o := Option.some.inj ho
   obtain rfl : b3 = false := h0
   have hn := wayP_all (o := si7o3) hC h1 [(2, none)] [] nk rfl; repeat (obtain ⟨rfl, hn⟩ := hn)
   have hn := wayN_all hC (i := 3) rfl [(4, 3), (5, 4), (6, 3), (7, 3), (8, 3)] [] nk rfl; repeat (obtain ⟨rfl, hn⟩ := hn)
   obtain ⟨hB, hx12, hx11, hx6, hx5, hx10, ho1, ho2, hoH, haH, hBz, hLn, hst, hXS, hks⟩ := hF
   refine wpOp_step (o := si7o3) rfl (fun K hK => ?_)
   replace hK := hid hK
   simp only [si7o3, si7T, selS_t, selS_f]
   go_simp
   refine (hks _ hB).mono ?_
   rintro e w2 ⟨rfl, hb2⟩
   dsimp only
   exact hK.out _ _ (si7M XS G CP rfl rfl ⟨hB.trans (hb2.mono hB.size), RowAt.nxS hb2 hx12, RowAt.nxS hb2 hx11, RowAt.nxS hb2 hx6, RowAt.nxS hb2 hx5, RowAt.nxS hb2 hx10, fun h => OwnHp.next hb2 (ho1 h), fun h => Bool.noConfusion h, ⟨OwnHp.next hb2 hoH.1, hoH.2⟩, haH, Nat.le_trans hBz hb2.size, hLn, hst, fun h => Bool.noConfusion h, hks⟩)
 · obtain rfl : si7o4 = o := Option.some.inj ho
   obtain rfl : b4 = false := h0
   have hn := wayP_all (o := si7o4) hC h1 [(3, none), (2, some 3)] [] nk rfl; repeat (obtain ⟨rfl, hn⟩ := hn)
   have hn := wayN_all hC (i := 4) rfl [(5, 4), (6, 5), (7, 4), (8, 4)] [] nk rfl; repeat (obtain ⟨rfl, hn⟩ := hn)
   obtain ⟨hB, hx12, hx11, hx6, hx5, hx10, ho1, ho2, hoH, haH, hBz, hLn, hst, hXS, hks⟩ := hF
   refine wpOp_step (o := si7o4) rfl (fun K hK => ?_)
   replace hK := hid hK
   simp only [si7o4, si7T, selS_t, selS_f]
   go_simp
   exact hK.out _ _ (si7M XS G CP rfl rfl ⟨hB, hx12, hx11, hx6, hx5, hx10, ho1, ho2, hoH, haH, hBz, hLn, hst, hXS, hks⟩)
 · obtain rfl : si7o5 = o := Option.some.inj ho
   obtain rfl : b5 = false := h0
   have hn := wayP_all (o := si7o5) hC h1 [(4, none), (3, some 4), (2, some 3)] [] nk rfl; repeat (obtain ⟨rfl, hn⟩ := hn)
   have hn := wayN_all hC (i := 5) rfl [(6, 5), (7, 5), (8, 5)] [] nk rfl; repeat (obtain ⟨rfl, hn⟩ := hn)
   obtain ⟨hB, hx12, hx11, hx6, hx5, hx10, ho1, ho2, hoH, haH, hBz, hLn, hst, hXS, hks⟩ := hF
   refine wpOp_step (o := si7o5) rfl (fun K hK => ?_)
   replace hK := hid hK
   simp only [si7o5, si7T, selS_t, selS_f]
   go_simp
   exact hK.out _ _ (si7M w.heap.size G CP rfl rfl ⟨hB.alloc hB.size _, hx12.alloc _, hx11.alloc _, hx6.alloc _, hx5.alloc _, hx10.alloc _, fun h => World.ownsRow.alloc (ho1 h) _, fun h => Bool.noConfusion h, ⟨World.ownsRow.alloc hoH.1 _, hoH.2⟩, haH, by simp only [World.size_alloc]; omega, hLn, hst, fun _ _ => RowAt.new w _ _, hks⟩)
 · obtain rfl : si7o6 = o := Option.some.inj ho
   obtain rfl : b6 = false := h0
   have hn := wayP_all (o := si7o6) hC h1 [(5, none), (3, none), (1, none), (4, some 5), (2, some 3), (0, some 1)] [] nk rfl; repeat (obtain ⟨rfl, hn⟩ := hn)
   have hn := wayN_all hC (i := 6) rfl [(7, 6), (8, 6)] [] nk rfl; repeat (obtain ⟨rfl, hn⟩ := hn)
   obtain ⟨hB, hx12, hx11, hx6, hx5, hx10, ho1, ho2, hoH, haH, hBz, hLn, hst, hXS, hks⟩ := hF
   refine wpOp_step (o := si7o6) rfl (fun K hK => ?_)
   replace hK := hid hK
   have hO := ho1 rfl
   refine step_append_hps P.B _ (by rfl) _ _ 23 (by rfl) Tryz.underlying23 Tryz.infoHpG _ P.L [(⟨⟨#[120, 45, 115, 117, 109]⟩, P.SM⟩ : Hp)] (by simp) (by rfl) hO hBz XS (hXS rfl rfl) 1 rfl (by rfl) (by simp; omega) ?_
   intro g3 c3 w3 hO3 hg3 hl3
   exact hK.out _ _ (si7M XS g3 c3 rfl rfl ⟨hB.grown hg3 hB.size (fun g hg => by have := (World.ownsRow.lt hO _ hg).1; omega), row_grown hx12 hg3 (OwnHp.neRowS hO hx12 (by decide)), row_grown hx11 hg3 (OwnHp.neRowS hO hx11 (by decide)), row_grown hx6 hg3 (OwnHp.neRowS hO hx6 (by decide)), row_grown hx5 hg3 (OwnHp.neRowS hO hx5 (by decide)), row_grown hx10 hg3 (OwnHp.neRowS hO hx10 (by decide)), fun h => Bool.noConfusion h, fun _ => hO3, ⟨World.ownsRow.kept hoH.1 hg3 hoH.2, hoH.2⟩, fun _ => apartG hoH.1 hoH.2 hl3, Nat.le_trans hBz hg3.size, hLn, hst, fun h e => Bool.noConfusion e, hks⟩)
 · obtain rfl : si7o7 = o := Option.some.inj ho
   obtain rfl : b7 = false := h0
   have hn := wayP_all (o := si7o7) hC h1 [(6, none), (5, none), (4, none), (3, none), (2, none), (1, none), (0, none)] [] nk rfl; repeat (obtain ⟨rfl, hn⟩ := hn)
   have hn := wayN_all hC (i := 7) rfl [(8, 7)] [] nk rfl; repeat (obtain ⟨rfl, hn⟩ := hn)
   obtain ⟨hB, hx12, hx11, hx6, hx5, hx10, ho1, ho2, hoH, haH, hBz, hLn, hst, hXS, hks⟩ := hF
   refine wpOp_step (o := si7o7) rfl (fun K hK => ?_)
   replace hK := hid hK
   simp only [si7o7, si7T, selS_t, selS_f]
   go_simp
   exact hK.out _ _ (si7M XS G CP rfl rfl ⟨hB, hx12, hx11, hx6, hx5, hx10, ho1, ho2, hoH, haH, hBz, hLn, hst, hXS, hks⟩)
 · obtain rfl : si7o8 = o := Option.some.inj ho
   obtain rfl : b8 = false := h0
   have hn := wayP_all (o := si7o8) hC h1 [(7, none), (6, none), (5, none), (4, none), (3, none), (2, none), (1, none), (0, none)] [] nk rfl; repeat (obtain ⟨rfl, hn⟩ := hn)
   obtain ⟨hB, hx12, hx11, hx6, hx5, hx10, ho1, ho2, hoH, haH, hBz, hLn, hst, hXS, hks⟩ := hF
   have h12 : RowAt w P.X12 25 #[.string P.mt, .string P.pt, .slice P.aL P.L.length P.cL, .slice P.aH P.nH P.cH, .string P.bd] := hx12
   have q := h12.cell 2
   have f := h12.free 2
   refine wpOp_step (o := si7o8) rfl (fun K hK => ?_)
   replace hK := hid hK
   simp only [si7o8, si7T, selS_t]
   go_simp
   exact hK.out _ _ (si7M XS G CP rfl rfl ⟨hB.setCell (by simp; omega) _, h12.set 2 _, hx11.other ⟨P.X12, 2, none⟩ _ (by simp; omega), hx6.other ⟨P.X12, 2, none⟩ _ (by simp; omega), hx5.other ⟨P.X12, 2, none⟩ _ (by simp; omega), hx10.other ⟨P.X12, 2, none⟩ _ (by simp; omega), fun h => Bool.noConfusion h, fun h => OwnHp.setCellS (ho2 h) (OwnHp.neRowS (ho2 h) h12 (by decide)), ⟨OwnHp.setCellS hoH.1 (OwnHp.neRowS hoH.1 h12 (by decide)), hoH.2⟩, haH, by simp; omega, hLn, hst, fun h e => Bool.noConfusion e, hks⟩)
set_option maxRecDepth 20000 in
set_option maxHeartbeats 4000000 in
theorem si7_wp {Q : Exit → Act → World → Prop} {rid : Nat} (w0 : World) (X5 X6 X10 X11 X12 B BH : Nat) (mt pt bd id sec : ByteArray) (r5 : Array Value) (aL : Option Addr) (cL : Nat) (L : List Hp) (aH : Option Addr) (nH cH : Nat) (H : List Hp) (tA : Option Addr) (m mc : Nat) (nw ls : Int) (SV : Int) (SM : ByteArray) {s0 s1 s7 s8 s9 s14 s15 s16 s17 s18 s19 s20 s21 s22 s23 s24 s25 s26 s27 s28 s29 s30 s31 s32 s33 s34 s35 s36 s37 s38 s39 s40 s41 s42 s43 s44 s45 s46 s47 s48 s49 s50 s51 s52 s53 s54 s55 s56 s57 s58 s59 s60 s61 s62 s63 s64 s65 : Value} (w : World) (hB : Below w0.heap.size w0 w) (hx12 : RowAt w X12 25 #[.string mt, .string pt, .slice aL L.length cL, .slice aH nH cH, .string bd]) (hx11 : RowAt w X11 72 #[.string id, .int .i64 nw, .int .i64 ls, .slice tA m mc]) (hx6 : RowAt w X6 27 #[.string id, .string sec]) (hx5 : RowAt w X5 25 r5) (hx10 : RowAt w X10 25 #[.string ⟨#[]⟩, .string ⟨#[]⟩, .slice none 0 0, .slice none 0 0, .string ⟨#[]⟩]) (ho1 : OwnHp w B (.slice aL L.length cL) L) (hoH : OwnHp w BH (.slice aH nH cH) H ∧ ((Value.slice aH nH cH).ownBlock = none ∨ (Value.slice aH nH cH).ownBlock ≠ (Value.slice aL L.length cL).ownBlock)) (hBz : B ≤ w.heap.size) (hLn : L.length ≤ 1000) (hst : w0.heap.size ≤ B ∧ w0.heap.size ≤ X12 ∧ X12 ≠ X6 ∧ X12 ≠ X5 ∧ X12 ≠ X10 ∧ X12 ≠ X11) (hks : ∀ wx, Below w0.heap.size w0 wx → Calls Tryz.prog 45 #[.int .i64 SV] wx fun e w' => e = .returned (.string SM) ∧ Below wx.heap.size wx w')
 (fin : ∀ (XS : Nat) (G : Nat) (CP : Nat) (w' : World), (Below w0.heap.size w0 w') → (RowAt w' X12 25 #[.string mt, .string pt, .slice (some ⟨G, 0, none⟩) (L.length + 1) CP, .slice aH nH cH, .string bd]) → (RowAt w' X11 72 #[.string id, .int .i64 nw, .int .i64 ls, .slice tA m mc]) → (RowAt w' X6 27 #[.string id, .string sec]) → (RowAt w' X5 25 r5) → (RowAt w' X10 25 #[.string ⟨#[]⟩, .string ⟨#[]⟩, .slice none 0 0, .slice none 0 0, .string ⟨#[]⟩]) → (OwnHp w' B (.slice (some ⟨G, 0, none⟩) (L.length + 1) CP) (L ++ [(⟨⟨#[120, 45, 115, 117, 109]⟩, SM⟩ : Hp)])) → (OwnHp w' BH (.slice aH nH cH) H ∧ ((Value.slice aH nH cH).ownBlock = none ∨ (Value.slice aH nH cH).ownBlock ≠ (Value.slice aL L.length cL).ownBlock)) → ((Value.slice aH nH cH).ownBlock = none ∨ (Value.slice aH nH cH).ownBlock ≠ some G) → (B ≤ w'.heap.size) → (L.length ≤ 1000) → (w0.heap.size ≤ B ∧ w0.heap.size ≤ X12 ∧ X12 ≠ X6 ∧ X12 ≠ X5 ∧ X12 ≠ X10 ∧ X12 ≠ X11) → (∀ wx, Below w0.heap.size w0 wx → Calls Tryz.prog 45 #[.int .i64 SV] wx fun e w' => e = .returned (.string SM) ∧ Below wx.heap.size wx w') → Q .normal { tmps := #[s0, s1, .slice tA m mc, .int .i64 nw, .int .i64 ls, .pointer (some ⟨X5, 0, none⟩), .pointer (some ⟨X6, 0, none⟩), s7, s8, s9, .pointer (some ⟨X10, 0, none⟩), .pointer (some ⟨X11, 0, none⟩), .pointer (some ⟨X12, 0, none⟩), .int .i64 SV, s14, s15, s16, s17, s18, s19, s20, s21, s22, s23, s24, s25, s26, s27, s28, s29, s30, s31, s32, s33, s34, s35, s36, s37, s38, s39, s40, s41, s42, s43, s44, s45, s46, s47, s48, s49, s50, s51, s52, .pointer (some ⟨X12, 2, none⟩), .slice aL L.length cL, .int .i64 SV, .string SM, .agg #[.string ⟨#[120, 45, 115, 117, 109]⟩, .string SM], .slice (some ⟨XS, 0, none⟩) 1 1, .slice (some ⟨G, 0, none⟩) (L.length + 1) CP, .pointer (some ⟨X12, 2, none⟩), s61, s62, s63, s64, s65], defers := [] } w') :
 (Code.region rid si7O true).wp Tryz.prog Q { tmps := #[s0, s1, .slice tA m mc, .int .i64 nw, .int .i64 ls, .pointer (some ⟨X5, 0, none⟩), .pointer (some ⟨X6, 0, none⟩), s7, s8, s9, .pointer (some ⟨X10, 0, none⟩), .pointer (some ⟨X11, 0, none⟩), .pointer (some ⟨X12, 0, none⟩), .int .i64 SV, s14, s15, s16, s17, s18, s19, s20, s21, s22, s23, s24, s25, s26, s27, s28, s29, s30, s31, s32, s33, s34, s35, s36, s37, s38, s39, s40, s41, s42, s43, s44, s45, s46, s47, s48, s49, s50, s51, s52, s53, s54, s55, s56, s57, s58, s59, s60, s61, s62, s63, s64, s65], defers := [] } w := by
 refine wp_region_inv (ops := si7O) (si7I ⟨w0, X5, X6, X10, X11, X12, B, BH, mt, pt, bd, id, sec, r5, aL, cL, L, aH, nH, cH, H, tA, m, mc, nw, ls, SV, SM, s0, s1, s7, s8, s9, s14, s15, s16, s17, s18, s19, s20, s21, s22, s23, s24, s25, s26, s27, s28, s29, s30, s31, s32, s33, s34, s35, s36, s37, s38, s39, s40, s41, s42, s43, s44, s45, s46, s47, s48, s49, s50, s51, s52, s53, s54, s55, s56, s57, s58, s59, s60, s61, s62, s63, s64, s65⟩) (by kernel_rfl) (by kernel_rfl) (fun l f v hI => ?_) (fun l f v hC hI i h0 o ho h1 => si7_step ⟨w0, X5, X6, X10, X11, X12, B, BH, mt, pt, bd, id, sec, r5, aL, cL, L, aH, nH, cH, H, tA, m, mc, nw, ls, SV, SM, s0, s1, s7, s8, s9, s14, s15, s16, s17, s18, s19, s20, s21, s22, s23, s24, s25, s26, s27, s28, s29, s30, s31, s32, s33, s34, s35, s36, s37, s38, s39, s40, s41, s42, s43, s44, s45, s46, s47, s48, s49, s50, s51, s52, s53, s54, s55, s56, s57, s58, s59, s60, s61, s62, s63, s64, s65⟩ l f v hC hI i h0 o ho h1) (fun l f v hI hall => ?_) ?_
 · obtain ⟨_, _, _, _, _, _, _, _, _, _, _, _, rfl, _⟩ := hI; rfl
 · obtain ⟨b0, b1, b2, b3, b4, b5, b6, b7, b8, XS, G, CP, rfl, rfl, hB, hx12, hx11, hx6, hx5, hx10, ho1, ho2, hoH, haH, hBz, hLn, hst, hXS, hks⟩ := hI
   have hn := allT hall [0, 1, 2, 3, 4, 5, 6, 7, 8] rfl; repeat (obtain ⟨rfl, hn⟩ := hn)
   exact fin XS G CP v hB hx12 hx11 hx6 hx5 hx10 (ho2 rfl) hoH (haH rfl) hBz hLn hst hks
 · exact ⟨false, false, false, false, false, false, false, false, false, 0, 0, 0, rfl, rfl, hB.drew, hx12.drew, hx11.drew, hx6.drew, hx5.drew, hx10.drew, fun _ => World.ownsRow.drew ho1, fun h => Bool.noConfusion h, ⟨World.ownsRow.drew hoH.1, hoH.2⟩, fun h => Bool.noConfusion h, hBz, hLn, hst, fun h => Bool.noConfusion h, hks⟩
end Go.Proofs.YtkcjigelenofhaaGreatDoor
