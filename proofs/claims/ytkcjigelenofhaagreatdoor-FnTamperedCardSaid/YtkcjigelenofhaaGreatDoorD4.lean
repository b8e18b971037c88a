import Derived.Test.YtkcjigelenofhaaGreatDoorD2
import Derived.Test.YtkcjigelenofhaaGreatDoorD2
namespace Go.Proofs.YtkcjigelenofhaaGreatDoor
open Go.RowKit
set_option linter.unusedVariables false
theorem ra6_tab2 (x1 : ByteArray) (hx1 : x1.size ≤ 1002) (k : Nat) (hk : k < 3) : ∃ t : ByteArray, (#[.string ⟨#[]⟩, .string ⟨#[120]⟩, .string x1] : Array Value)[k]? = some (.string t) ∧ t.size ≤ 1002 := by
 rcases (by omega : k = 0 ∨ k = 1 ∨ k = 2) with rfl | rfl | rfl
 all_goals exact ⟨_, rfl, by first | decide | assumption⟩
def ra6o0 : Oper := ⟨some 18, .makeSlice 22 (.const (.int .i64 1001)) (.const (.int .i64 1001)), 22, "l10_request.go:395", #[], none⟩
def ra6o1 : Oper := ⟨some 19, .convert 22 9 (.tmp 18), 9, "l10_request.go:395", #[⟨0, .data⟩], none⟩
def ra6o2 : Oper := ⟨some 20, .buildSlice 28 3 #[(0, .const (.string { data := #[] })), (1, .const (.string { data := #[120] })), (2, .tmp 19)], 28, "l10_request.go:395", #[⟨1, .data⟩], none⟩
def ra6o3 : Oper := ⟨some 21, .move (.tmp 0), 61, "l10_request.go:395", #[], none⟩
def ra6o4 : Oper := ⟨some 22, .call { callee := .value (.func 36), args := #[.tmp 21, .const (.int .i64 3)], argTypes := #[61, 2] }, 2, "l10_request.go:395", #[⟨3, .data⟩], none⟩
def ra6o5 : Oper := ⟨some 23, .indexAddr 28 (.tmp 20) (.tmp 22), 0, "l10_request.go:395", #[⟨2, .data⟩, ⟨4, .data⟩], none⟩
def ra6o6 : Oper := ⟨some 24, .load 9 (.tmp 23), 9, "l10_request.go:395", #[⟨5, .data⟩], none⟩
def ra6o7 : Oper := ⟨some 25, .fieldAddr 25 (.tmp 3) 1, 0, "l10_request.go:395", #[⟨0, .phase⟩, ⟨1, .phase⟩, ⟨2, .phase⟩, ⟨3, .phase⟩, ⟨4, .phase⟩, ⟨5, .phase⟩, ⟨6, .phase⟩], none⟩
def ra6o8 : Oper := ⟨none, .store 9 (.tmp 25) (.tmp 24), 0, "l10_request.go:395", #[⟨7, .data⟩, ⟨6, .data⟩, ⟨4, .chain⟩, ⟨0, .phase⟩, ⟨1, .phase⟩, ⟨2, .phase⟩, ⟨3, .phase⟩, ⟨4, .phase⟩, ⟨5, .phase⟩, ⟨6, .phase⟩], none⟩
def ra6O : Array Oper := #[ra6o0, ra6o1, ra6o2, ra6o3, ra6o4, ra6o5, ra6o6, ra6o7, ra6o8]
structure ra6P where
 (W0 w0 : World)
 (c : Nat)
 (a : Option Addr)
 (len cap p XR XB B : Nat)
 (zr : Array Value)
 (y0 y1 y2 y3 y4 : Value)
 (BO : Nat)
 (aO : Option Addr)
 (nO cO : Nat)
 (LO : List Hp)
 (BU : Nat)
 (aU : Option Addr)
 (nU cU : Nat)
 (LU : List Hp)
 (s1 s4 s5 s6 s7 s8 s9 s10 s11 s12 s13 s14 s15 s16 s17 s18 s19 s20 s21 s22 s23 s24 s25 s26 s27 s28 s29 s30 s31 s32 s33 s34 s35 s36 s37 s38 s39 s40 s41 s42 s43 s44 s45 s46 s47 s48 s49 s50 s51 s52 s53 s54 s55 s56 s57 s58 s59 s60 s61 s62 s63 s64 s65 s66 s67 s68 s69 s70 s71 : Value)
def ra6T (P : ra6P) (X0 : Nat) (x1 : ByteArray) (X2 : Nat) (R4 : Nat) (x6 : ByteArray) (pp : Nat) (b0 b1 b2 b3 b4 b5 b6 b7 b8 : Bool) : Array Value := #[.pointer (some ⟨P.c, 0, none⟩), P.s1, .pointer (some ⟨P.XR, 0, none⟩), .pointer (some ⟨P.XB, 0, none⟩), P.s4, P.s5, P.s6, P.s7, P.s8, P.s9, P.s10, P.s11, P.s12, P.s13, P.s14, P.s15, P.s16, P.s17, sel b0 (.slice (some ⟨X0, 0, none⟩) 1001 1001) (P.s18), sel b1 (.string x1) (P.s19), sel b2 (.slice (some ⟨X2, 0, none⟩) 3 3) (P.s20), sel b3 (.pointer (some ⟨P.c, 0, none⟩)) (P.s21), sel b4 (.int .i64 (R4 : Int)) (P.s22), sel b5 (.pointer (some ⟨X2, R4, none⟩)) (P.s23), sel b6 (.string x6) (P.s24), sel b7 (.pointer (some ⟨P.XB, 1, none⟩)) (P.s25), P.s26, P.s27, P.s28, P.s29, P.s30, P.s31, P.s32, P.s33, P.s34, P.s35, P.s36, P.s37, P.s38, P.s39, P.s40, P.s41, P.s42, P.s43, P.s44, P.s45, P.s46, P.s47, P.s48, P.s49, P.s50, P.s51, P.s52, P.s53, P.s54, P.s55, P.s56, P.s57, P.s58, P.s59, P.s60, P.s61, P.s62, P.s63, P.s64, P.s65, P.s66, P.s67, P.s68, P.s69, P.s70, P.s71]
def ra6F (P : ra6P) (X0 : Nat) (x1 : ByteArray) (X2 : Nat) (R4 : Nat) (x6 : ByteArray) (pp : Nat) (b0 b1 b2 b3 b4 b5 b6 b7 b8 : Bool) (w : World) : Prop := (Src P.W0 w P.c P.a P.len P.cap pp) ∧ (pp ≤ P.p + 40 * (b4.toNat)) ∧ (P.w0.grownBy w (some P.c)) ∧ (RowAt w P.XB 25 (cond b8 #[P.y0, .string x6, P.y2, P.y3, P.y4] #[P.y0, P.y1, P.y2, P.y3, P.y4])) ∧ (RowAt w P.XR 25 P.zr) ∧ (P.B ≤ w.heap.size) ∧ (P.c < P.XB ∧ P.c < P.B ∧ P.w0.heap.size ≤ P.B ∧ P.XR ≠ P.XB ∧ P.w0.heap.size ≤ P.XB ∧ P.W0.heap.size ≤ P.c ∧ P.p ≤ 900000 ∧ P.c ≠ P.XR) ∧ (OwnHp w P.BO (.slice P.aO P.nO P.cO) P.LO ∧ P.c < P.BO) ∧ (OwnHp w P.BU (.slice P.aU P.nU P.cU) P.LU ∧ P.c < P.BU) ∧ (b0 = true → b8 = false → OwnNums w P.B 5 .u8 (.slice (some ⟨X0, 0, none⟩) 1001 1001) (List.replicate 1001 0)) ∧ (b1 = true → x1.size ≤ 1002) ∧ (b2 = true → b8 = false → RowAt w X2 9 #[.string ⟨#[]⟩, .string ⟨#[120]⟩, .string x1] ∧ P.B ≤ X2) ∧ (b4 = true → R4 < 3) ∧ (b6 = true → x6.size ≤ 1002)
def ra6I (P : ra6P) (l : Array Bool) (f : Act) (w : World) : Prop :=
 ∃ (b0 b1 b2 b3 b4 b5 b6 b7 b8 : Bool) (X0 : Nat) (x1 : ByteArray) (X2 : Nat) (R4 : Nat) (x6 : ByteArray) (pp : Nat), l = #[b0, b1, b2, b3, b4, b5, b6, b7, b8] ∧ f = { tmps := ra6T P X0 x1 X2 R4 x6 pp b0 b1 b2 b3 b4 b5 b6 b7 b8, defers := [] } ∧ ra6F P X0 x1 X2 R4 x6 pp b0 b1 b2 b3 b4 b5 b6 b7 b8 w
theorem ra6M {P : ra6P} {b0 b1 b2 b3 b4 b5 b6 b7 b8 : Bool} (X0 : Nat) (x1 : ByteArray) (X2 : Nat) (R4 : Nat) (x6 : ByteArray) (pp : Nat) {l : Array Bool} {f : Act} {w : World} (hl : l = #[b0, b1, b2, b3, b4, b5, b6, b7, b8]) (hf : f = { tmps := ra6T P X0 x1 X2 R4 x6 pp b0 b1 b2 b3 b4 b5 b6 b7 b8, defers := [] }) (h : ra6F P X0 x1 X2 R4 x6 pp b0 b1 b2 b3 b4 b5 b6 b7 b8 w) : ra6I P l f w := ⟨b0, b1, b2, b3, b4, b5, b6, b7, b8, X0, x1, X2, R4, x6, pp, hl, hf, h⟩
set_option maxRecDepth 20000 in
set_option maxHeartbeats 20000000 in
theorem ra6_step {Q : Exit → Act → World → Prop} (P : ra6P) (l : Array Bool) (f : Act) (w : World) (hC : Closed ra6O l) (hI : ra6I P l f w) (i : Nat) (h0 : l.getD i true = false) (o : Oper) (ho : ra6O[i]? = some o) (h1 : ∀ e ∈ o.after, Region.binds .any e = true → l.getD e.on false = true) : wpOp Tryz.prog ra6O Q i (ra6I P (l.setIfInBounds i true)) f w := by
 obtain ⟨b0, b1, b2, b3, b4, b5, b6, b7, b8, X0, x1, X2, R4, x6, pp, rfl, rfl, hF⟩ := hI
 have hi : i < 9 := by
  rcases Nat.lt_or_ge i 9 with h | h
  · exact h
  · rw [show ra6O[i]? = none from Array.getElem?_eq_none h] at ho; cases ho
 rcases (by omega : i = 0 ∨ i = 1 ∨ i = 2 ∨ i = 3 ∨ i = 4 ∨ i = 5 ∨ i = 6 ∨ i = 7 ∨ i = 8) with rfl | rfl | rfl | rfl | rfl | rfl | rfl | rfl | rfl
 · obtain rfl : ra6o0 = o := Option.some.inj ho
   obtain rfl : b0 = false := h0
   have hn := wayN_all hC (i := 0) rfl [(1, 0), (2, 1), (5, 2), (6, 5), (7, 0), (8, 0)] [] nk rfl; repeat (obtain ⟨rfl, hn⟩ := hn)
   obtain ⟨hS, hp, hg, hbox, hR, hBz, hst, hoO, hoU, hX0, hx1, hX2, hR4, hx6⟩ := hF
   have hmk : ∀ w, (Instr.makeSlice 22 (.int .i64 1001) (.int .i64 1001)).run Tryz.prog w = .ok (.slice (some ⟨w.heap.size, 0, none⟩) 1001 1001) (w.alloc (.cells (ints .u8 (List.replicate 1001 0)) 5)) := fun w => mk_bytes w 1001 (by omega)
   refine wpOp_step (o := ra6o0) rfl (fun K hK => ?_)
   replace hK := hid hK
   simp only [ra6o0, ra6T, sel_f]
   go_simp
   exact hK.out _ _ (ra6M w.heap.size x1 X2 R4 x6 pp rfl rfl ⟨hS.alloc _, hp, grown_al hg _, hbox.alloc _, hR.alloc _, by simp only [World.size_alloc]; omega, hst, ⟨World.ownsRow.alloc hoO.1 _, hoO.2⟩, ⟨World.ownsRow.alloc hoU.1 _, hoU.2⟩, fun _ _ => (own_made w 1001 (by omega)).monoD hBz, hx1, fun h => Bool.noConfusion h, hR4, hx6⟩)
 · obtain rfl : ra6o1 = o := Option.some.inj ho
   obtain rfl : b1 = false := h0
   have hn := wayP_all (o := ra6o1) hC h1 [(0, none)] [] nk rfl; repeat (obtain ⟨rfl, hn⟩ := hn)
   have hn := wayN_all hC (i := 1) rfl [(2, 1), (5, 2), (6, 5), (7, 1), (8, 1)] [] nk rfl; repeat (obtain ⟨rfl, hn⟩ := hn)
   obtain ⟨hS, hp, hg, hbox, hR, hBz, hst, hoO, hoU, hX0, hx1, hX2, hR4, hx6⟩ := hF
   have hcv := conv_owned w 22 5 9 Tryz.underlying22 Tryz.underlying5 Tryz.underlying9 (hX0 rfl rfl)
   refine wpOp_step (o := ra6o1) rfl (fun K hK => ?_)
   replace hK := hid hK
   simp only [ra6o1, ra6T, sel_t, sel_f]
   go_simp
   exact hK.out _ _ (ra6M X0 ((strOfNums (List.replicate 1001 0))) X2 R4 x6 pp rfl rfl ⟨hS, hp, hg, hbox, hR, hBz, hst, hoO, hoU, hX0, fun _ => by rw [strOfNums_size, List.length_replicate]; omega, fun h => Bool.noConfusion h, hR4, hx6⟩)
 · obtain rfl : ra6o2 = o := Option.some.inj ho
   obtain rfl : b2 = false := h0
   have hn := wayP_all (o := ra6o2) hC h1 [(1, none), (0, some 1)] [] nk rfl; repeat (obtain ⟨rfl, hn⟩ := hn)
   have hn := wayN_all hC (i := 2) rfl [(5, 2), (6, 5), (7, 2), (8, 2)] [] nk rfl; repeat (obtain ⟨rfl, hn⟩ := hn)
   obtain ⟨hS, hp, hg, hbox, hR, hBz, hst, hoO, hoU, hX0, hx1, hX2, hR4, hx6⟩ := hF
   refine wpOp_step (o := ra6o2) rfl (fun K hK => ?_)
   replace hK := hid hK
   simp only [ra6o2, ra6T, sel_t, sel_f]
   go_simp
   exact hK.out _ _ (ra6M X0 x1 w.heap.size R4 x6 pp rfl rfl ⟨hS.alloc _, hp, grown_al hg _, hbox.alloc _, hR.alloc _, by simp only [World.size_alloc]; omega, hst, ⟨World.ownsRow.alloc hoO.1 _, hoO.2⟩, ⟨World.ownsRow.alloc hoU.1 _, hoU.2⟩, fun h e => World.ownsRow.alloc (hX0 h e) _, hx1, fun _ _ => ⟨RowAt.new w _ _, hBz⟩, hR4, hx6⟩)
 · obtain rfl : ra6o3 = o := Option.some.inj ho
   obtain rfl : b3 = false := h0
   have hn := wayN_all hC (i := 3) rfl [(4, 3), (5, 4), (6, 5), (7, 3), (8, 3)] [] nk rfl; repeat (obtain ⟨rfl, hn⟩ := hn)
   obtain ⟨hS, hp, hg, hbox, hR, hBz, hst, hoO, hoU, hX0, hx1, hX2, hR4, hx6⟩ := hF
   simp only [Bool.toNat_false] at hp
   refine wpOp_step (o := ra6o3) rfl (fun K hK => ?_)
   replace hK := hid hK
   simp only [ra6o3, ra6T, sel_f]
   go_simp
   exact hK.out _ _ (ra6M X0 x1 X2 R4 x6 pp rfl rfl ⟨hS, hp, hg, hbox, hR, hBz, hst, hoO, hoU, hX0, hx1, hX2, hR4, hx6⟩)
 · obtain rfl : ra6o4 = o := Option.some.inj ho
   obtain rfl : b4 = false := h0
   have hn := wayP_all (o := ra6o4) hC h1 [(3, none)] [] nk rfl; repeat (obtain ⟨rfl, hn⟩ := hn)
   have hn := wayN_all hC (i := 4) rfl [(5, 4), (6, 5), (7, 4), (8, 4)] [] nk rfl; repeat (obtain ⟨rfl, hn⟩ := hn)
   obtain ⟨hS, hp, hg, hbox, hR, hBz, hst, hoO, hoU, hX0, hx1, hX2, hR4, hx6⟩ := hF
   simp only [Bool.toNat_false] at hp
   have hcB : P.c < P.B := by omega
   refine wpOp_step (o := ra6o4) rfl (fun K hK => ?_)
   replace hK := hid hK
   simp only [ra6o4, ra6T, sel_t, sel_f]
   go_simp
   refine (n_all P.W0 _ P.c P.a P.len P.cap pp 3 hS (by omega) (by omega) (by omega)).mono ?_
   rintro e w2 ⟨⟨r, rfl, h20, h21⟩, hs2, hg2⟩
   obtain ⟨R, rfl⟩ := Int.eq_ofNat_of_zero_le h20
   dsimp only
   exact hK.out _ _ (ra6M X0 x1 X2 R x6 (pp + 1) rfl rfl ⟨hs2, by show pp + 1 ≤ P.p + 40 * (1); omega, grown_trans hg hg2, rowF hbox hg2 hst.1, rowF2 hR hg2 hst.2.2.2.2.2.2.2, Nat.le_trans hBz hg2.size, hst, ⟨OwnHp.keptC hoO.1 hg2 hoO.2, hoO.2⟩, ⟨OwnHp.keptC hoU.1 hg2 hoU.2, hoU.2⟩, fun h e => OwnNums.kept (hX0 h e) hg2 (by omega), hx1, fun h e => ⟨rowF (hX2 h e).1 hg2 (by have := (hX2 h e).2; omega), (hX2 h e).2⟩, fun _ => by omega, hx6⟩)
 · obtain rfl : ra6o5 = o := Option.some.inj ho
   obtain rfl : b5 = false := h0
   have hn := wayP_all (o := ra6o5) hC h1 [(4, none), (2, none), (3, some 4), (1, some 2), (0, some 1)] [] nk rfl; repeat (obtain ⟨rfl, hn⟩ := hn)
   have hn := wayN_all hC (i := 5) rfl [(6, 5), (7, 5), (8, 5)] [] nk rfl; repeat (obtain ⟨rfl, hn⟩ := hn)
   obtain ⟨hS, hp, hg, hbox, hR, hBz, hst, hoO, hoU, hX0, hx1, hX2, hR4, hx6⟩ := hF
   simp only [Bool.toNat_true] at hp
   have r := hR4 rfl
   have r0 : (R4 : Int) < 3 := by omega
   refine wpOp_step (o := ra6o5) rfl (fun K hK => ?_)
   replace hK := hid hK
   simp only [ra6o5, ra6T, sel_t, sel_f]
   go_simp
   exact hK.out _ _ (ra6M X0 x1 X2 R4 x6 pp rfl rfl ⟨hS, hp, hg, hbox, hR, hBz, hst, hoO, hoU, hX0, hx1, hX2, hR4, hx6⟩)
 · obtain rfl : ra6o6 = o := Option.some.inj ho
   obtain rfl : b6 = false := h0
   have hn := wayP_all (o := ra6o6) hC h1 [(5, none), (2, some 5), (4, some 5), (3, some 4), (1, some 2), (0, some 1)] [] nk rfl; repeat (obtain ⟨rfl, hn⟩ := hn)
   have hn := wayN_all hC (i := 6) rfl [(7, 6), (8, 6)] [] nk rfl; repeat (obtain ⟨rfl, hn⟩ := hn)
   obtain ⟨hS, hp, hg, hbox, hR, hBz, hst, hoO, hoU, hX0, hx1, hX2, hR4, hx6⟩ := hF
   simp only [Bool.toNat_true] at hp
   obtain ⟨tt, hk2, htt⟩ := ra6_tab2 x1 (hx1 rfl) R4 (hR4 rfl)
   have c2 := ((hX2 rfl rfl).1.cell R4).trans hk2
   refine wpOp_step (o := ra6o6) rfl (fun K hK => ?_)
   replace hK := hid hK
   simp only [ra6o6, ra6T, sel_t, sel_f]
   go_simp
   exact hK.out _ _ (ra6M X0 x1 X2 R4 tt pp rfl rfl ⟨hS, hp, hg, hbox, hR, hBz, hst, hoO, hoU, hX0, hx1, hX2, hR4, fun _ => htt⟩)
 · obtain rfl : ra6o7 = o := Option.some.inj ho
   obtain rfl : b7 = false := h0
   have hn := wayP_all (o := ra6o7) hC h1 [(6, none), (5, none), (4, none), (3, none), (2, none), (1, none), (0, none)] [] nk rfl; repeat (obtain ⟨rfl, hn⟩ := hn)
   have hn := wayN_all hC (i := 7) rfl [(8, 7)] [] nk rfl; repeat (obtain ⟨rfl, hn⟩ := hn)
   obtain ⟨hS, hp, hg, hbox, hR, hBz, hst, hoO, hoU, hX0, hx1, hX2, hR4, hx6⟩ := hF
   simp only [Bool.toNat_true] at hp
   refine wpOp_step (o := ra6o7) rfl (fun K hK => ?_)
   replace hK := hid hK
   simp only [ra6o7, ra6T, sel_t, sel_f]
   go_simp
   exact hK.out _ _ (ra6M X0 x1 X2 R4 x6 pp rfl rfl ⟨hS, hp, hg, hbox, hR, hBz, hst, hoO, hoU, hX0, hx1, hX2, hR4, hx6⟩)
 · obtain rfl : ra6o8 = o := Option.some.inj ho
   obtain rfl : b8 = false := h0
   have hn := wayP_all (o := ra6o8) hC h1 [(7, none), (6, none), (5, none), (4, none), (3, none), (2, none), (1, none), (0, none)] [] nk rfl; repeat (obtain ⟨rfl, hn⟩ := hn)
   obtain ⟨hS, hp, hg, hbox, hR, hBz, hst, hoO, hoU, hX0, hx1, hX2, hR4, hx6⟩ := hF
   simp only [Bool.toNat_true] at hp
   have hbx : RowAt w P.XB 25 #[P.y0, P.y1, P.y2, P.y3, P.y4] := hbox
   have q := hbx.cell 1
   have f := hbx.free 1
   refine wpOp_step (o := ra6o8) rfl (fun K hK => ?_)
   replace hK := hid hK
   simp only [ra6o8, ra6T, sel_t]
   go_simp
   exact hK.out _ _ (ra6M X0 x1 X2 R4 x6 pp rfl rfl ⟨hS.set hst.1 1 _, hp, grown_far hg hst.2.2.2.2.1 1 _, hbx.set 1 _, hR.other ⟨P.XB, 1, none⟩ _ hst.2.2.2.1, by simp; omega, hst, ⟨OwnHp.setCellN hoO.1 (OwnHp.neRow hoO.1 hbx (by decide)), hoO.2⟩, ⟨OwnHp.setCellN hoU.1 (OwnHp.neRow hoU.1 hbx (by decide)), hoU.2⟩, fun h e => Bool.noConfusion e, hx1, fun h e => Bool.noConfusion e, hR4, hx6⟩)
set_option maxRecDepth 20000 in
set_option maxHeartbeats 4000000 in
theorem ra6_wp {Q : Exit → Act → World → Prop} {rid : Nat} (W0 w0 : World) (c : Nat) (a : Option Addr) (len cap p XR XB B : Nat) (zr : Array Value) (y0 y1 y2 y3 y4 : Value) (BO : Nat) (aO : Option Addr) (nO cO : Nat) (LO : List Hp) (BU : Nat) (aU : Option Addr) (nU cU : Nat) (LU : List Hp) {s1 s4 s5 s6 s7 s8 s9 s10 s11 s12 s13 s14 s15 s16 s17 s18 s19 s20 s21 s22 s23 s24 s25 s26 s27 s28 s29 s30 s31 s32 s33 s34 s35 s36 s37 s38 s39 s40 s41 s42 s43 s44 s45 s46 s47 s48 s49 s50 s51 s52 s53 s54 s55 s56 s57 s58 s59 s60 s61 s62 s63 s64 s65 s66 s67 s68 s69 s70 s71 : Value} (w : World) (hS : Src W0 w c a len cap p) (hg : w0.grownBy w (some c)) (hbox : RowAt w XB 25 #[y0, y1, y2, y3, y4]) (hR : RowAt w XR 25 zr) (hBz : B ≤ w.heap.size) (hst : c < XB ∧ c < B ∧ w0.heap.size ≤ B ∧ XR ≠ XB ∧ w0.heap.size ≤ XB ∧ W0.heap.size ≤ c ∧ p ≤ 900000 ∧ c ≠ XR) (hoO : OwnHp w BO (.slice aO nO cO) LO ∧ c < BO) (hoU : OwnHp w BU (.slice aU nU cU) LU ∧ c < BU)
 (fin : ∀ (X0 : Nat) (x1 : ByteArray) (X2 : Nat) (R4 : Nat) (x6 : ByteArray) (pp : Nat) (w' : World), (Src W0 w' c a len cap pp) → (pp ≤ p + 40 * (1)) → (w0.grownBy w' (some c)) → (RowAt w' XB 25 #[y0, .string x6, y2, y3, y4]) → (RowAt w' XR 25 zr) → (B ≤ w'.heap.size) → (c < XB ∧ c < B ∧ w0.heap.size ≤ B ∧ XR ≠ XB ∧ w0.heap.size ≤ XB ∧ W0.heap.size ≤ c ∧ p ≤ 900000 ∧ c ≠ XR) → (OwnHp w' BO (.slice aO nO cO) LO ∧ c < BO) → (OwnHp w' BU (.slice aU nU cU) LU ∧ c < BU) → (x1.size ≤ 1002) → (R4 < 3) → (x6.size ≤ 1002) → Q .normal { tmps := #[.pointer (some ⟨c, 0, none⟩), s1, .pointer (some ⟨XR, 0, none⟩), .pointer (some ⟨XB, 0, none⟩), s4, s5, s6, s7, s8, s9, s10, s11, s12, s13, s14, s15, s16, s17, .slice (some ⟨X0, 0, none⟩) 1001 1001, .string x1, .slice (some ⟨X2, 0, none⟩) 3 3, .pointer (some ⟨c, 0, none⟩), .int .i64 (R4 : Int), .pointer (some ⟨X2, R4, none⟩), .string x6, .pointer (some ⟨XB, 1, none⟩), s26, s27, s28, s29, s30, s31, s32, s33, s34, s35, s36, s37, s38, s39, s40, s41, s42, s43, s44, s45, s46, s47, s48, s49, s50, s51, s52, s53, s54, s55, s56, s57, s58, s59, s60, s61, s62, s63, s64, s65, s66, s67, s68, s69, s70, s71], defers := [] } w') :
 (Code.region rid ra6O true).wp Tryz.prog Q { tmps := #[.pointer (some ⟨c, 0, none⟩), s1, .pointer (some ⟨XR, 0, none⟩), .pointer (some ⟨XB, 0, none⟩), s4, s5, s6, s7, s8, s9, s10, s11, s12, s13, s14, s15, s16, s17, s18, s19, s20, s21, s22, s23, s24, s25, s26, s27, s28, s29, s30, s31, s32, s33, s34, s35, s36, s37, s38, s39, s40, s41, s42, s43, s44, s45, s46, s47, s48, s49, s50, s51, s52, s53, s54, s55, s56, s57, s58, s59, s60, s61, s62, s63, s64, s65, s66, s67, s68, s69, s70, s71], defers := [] } w := by
 refine wp_region_inv (ops := ra6O) (ra6I ⟨W0, w0, c, a, len, cap, p, XR, XB, B, zr, y0, y1, y2, y3, y4, BO, aO, nO, cO, LO, BU, aU, nU, cU, LU, s1, s4, s5, s6, s7, s8, s9, s10, s11, s12, s13, s14, s15, s16, s17, s18, s19, s20, s21, s22, s23, s24, s25, s26, s27, s28, s29, s30, s31, s32, s33, s34, s35, s36, s37, s38, s39, s40, s41, s42, s43, s44, s45, s46, s47, s48, s49, s50, s51, s52, s53, s54, s55, s56, s57, s58, s59, s60, s61, s62, s63, s64, s65, s66, s67, s68, s69, s70, s71⟩) (by kernel_rfl) (by kernel_rfl) (fun l f v hI => ?_) (fun l f v hC hI i h0 o ho h1 => ra6_step ⟨W0, w0, c, a, len, cap, p, XR, XB, B, zr, y0, y1, y2, y3, y4, BO, aO, nO, cO, LO, BU, aU, nU, cU, LU, s1, s4, s5, s6, s7, s8, s9, s10, s11, s12, s13, s14, s15, s16, s17, s18, s19, s20, s21, s22, s23, s24, s25, s26, s27, s28, s29, s30, s31, s32, s33, s34, s35, s36, s37, s38, s39, s40, s41, s42, s43, s44, s45, s46, s47, s48, s49, s50, s51, s52, s53, s54, s55, s56, s57, s58, s59, s60, s61, s62, s63, s64, s65, s66, s67, s68, s69, s70, s71⟩ l f v hC hI i h0 o ho h1) (fun l f v hI hall => ?_) ?_
 · obtain ⟨_, _, _, _, _, _, _, _, _, _, _, _, _, _, _, rfl, _⟩ := hI; rfl
 · obtain ⟨b0, b1, b2, b3, b4, b5, b6, b7, b8, X0, x1, X2, R4, x6, pp, rfl, rfl, hS, hp, hg, hbox, hR, hBz, hst, hoO, hoU, hX0, hx1, hX2, hR4, hx6⟩ := hI
   have hn := allT hall [0, 1, 2, 3, 4, 5, 6, 7, 8] rfl; repeat (obtain ⟨rfl, hn⟩ := hn)
   exact fin X0 x1 X2 R4 x6 pp v hS hp hg hbox hR hBz hst hoO hoU (hx1 rfl) (hR4 rfl) (hx6 rfl)
 · exact ⟨false, false, false, false, false, false, false, false, false, 0, ⟨#[]⟩, 0, 0, ⟨#[]⟩, p, rfl, rfl, hS.drew, Nat.le_add_right _ _, grown_trans hg (grown_drewS _ _), hbox.drew, hR.drew, hBz, hst, ⟨World.ownsRow.drew hoO.1, hoO.2⟩, ⟨World.ownsRow.drew hoU.1, hoU.2⟩, fun h => Bool.noConfusion h, fun h => Bool.noConfusion h, fun h => Bool.noConfusion h, fun h => Bool.noConfusion h, fun h => Bool.noConfusion h⟩
end Go.Proofs.YtkcjigelenofhaaGreatDoor
namespace Go.Proofs.YtkcjigelenofhaaGreatDoor
open Go.RowKit
set_option linter.unusedVariables false
theorem step_append_hpE {P : Program} (base : Nat) (w : World) {ops : Array Oper} {op : Oper} {a : Act} {K : Act → World → Prop} {Q : Exit → Act → World → Prop} {E : Prop} (hgd : op.guard = none) (s x : Operand) (t : TypeId)
 (ho : op.op = .call { callee := .builtin .append, args := #[s, x], argTypes := #[t, t] })
 (ht : P.underlying t = some (.slice 66)) (hinfo : (P.info? 66).map (fun i => (i.zero, i.size, i.bytes)) = some (some hz2, 2, 32))
 (v : Value) (L : List Hp) (n y : ByteArray) (hs : a.eval s = v) (hown : OwnHp w base v L) (hsz : base ≤ w.heap.size)
 (b : Nat) (hbox : w.heap[b]? = some (.cells #[.string n, .string y] 66 (0, 0))) (hx : a.eval x = .slice (some ⟨b, 0, none⟩) 1 1) (hlen : L.length + 1 ≤ 1048576)
 (h : ∀ g cap w', OwnHp w' base (.slice (some ⟨g, 0, none⟩) (L.length + 1) cap) (L ++ [(⟨n, y⟩ : Hp)]) → w.grownBy w' v.ownBlock → (v.ownBlock = some g ∨ g = w.heap.size) → K (a.put op.dst (.slice (some ⟨g, 0, none⟩) (L.length + 1) cap)) w') :
 if Region.wanted op (yielded ops a.tmps) = true then Oper.wp P op a w K Q else E := by
 obtain ⟨i0, hi, hz0, hz1, hz2⟩ := info_parts hinfo
 have R : RowAt w b 66 #[.string n, .string y] := hbox
 refine step_append_lies _ hgd s x t ho base 66 i0 _ 2 32 ht hi hz0 hz1 hz2 rfl (by decide) v L.length (hpL L) hs hown ⟨b, 0, none⟩ 1 1 (hpL [⟨n, y⟩]) hx rfl ?_ ?_ (by decide) ?_ ?_ hsz w.heap.size rfl ?_
 · intro j u hj
   have hadd : (⟨b, 0, none⟩ : Addr).add j = ⟨b, j, none⟩ := by unfold Addr.add; split <;> simp_all
   rw [hadd, R.cell]
   match j, hj with
   | 0, hj => exact hj
   | 1, hj => exact hj
 · intro u hu
   simp [hpL] at hu
   rcases hu with rfl | rfl <;> rfl
 · unfold maxLen; omega
 · omega
 · intro g cap w' h1 h2 h3 _
   exact h g cap w' (by unfold OwnHp; rw [hpL_app, List.length_append]; exact h1) h2 h3
theorem apartE {w : World} {BH g3 n cp : Nat} {vH vL : Value} {LH : List Hp} (h : OwnHp w BH vH LH) (hap : vH.ownBlock = none ∨ vH.ownBlock ≠ vL.ownBlock) (hl : vL.ownBlock = some g3 ∨ g3 = w.heap.size) : vH.ownBlock = none ∨ vH.ownBlock ≠ (Value.slice (some ⟨g3, 0, none⟩) n cp).ownBlock := by
 rcases hap with h0 | h0
 · exact .inl h0
 · refine .inr fun e => ?_
   have e' : vH.ownBlock = some g3 := e
   rcases hl with h1 | h1
   · exact h0 (e'.trans h1.symm)
   · have := (World.ownsRow.lt h g3 e').2
     omega
theorem ra8_tab7 (x6 : ByteArray) (hx6 : x6.size ≤ 102) (k : Nat) (hk : k < 3) : ∃ t : ByteArray, (#[.string ⟨#[]⟩, .string ⟨#[97]⟩, .string x6] : Array Value)[k]? = some (.string t) ∧ t.size ≤ 102 := by
 rcases (by omega : k = 0 ∨ k = 1 ∨ k = 2) with rfl | rfl | rfl
 all_goals exact ⟨_, rfl, by first | decide | assumption⟩
def ra8o0 : Oper := ⟨some 28, .fieldAddr 25 (.tmp 3) 2, 0, "l10_request.go:397", #[], none⟩
def ra8o1 : Oper := ⟨some 29, .load 23 (.tmp 28), 23, "l10_request.go:397", #[⟨0, .data⟩], none⟩
def ra8o2 : Oper := ⟨some 30, .move (.tmp 0), 61, "l10_request.go:397", #[], none⟩
def ra8o3 : Oper := ⟨some 31, .call { callee := .value (.func 36), args := #[.tmp 30, .const (.int .i64 2)], argTypes := #[61, 2] }, 2, "l10_request.go:397", #[⟨2, .data⟩], none⟩
def ra8o4 : Oper := ⟨some 32, .binOp .add 2 (.const (.int .i64 100)) (.tmp 31) 2, 2, "l10_request.go:397", #[⟨3, .data⟩], none⟩
def ra8o5 : Oper := ⟨some 33, .makeSlice 22 (.tmp 32) (.tmp 32), 22, "l10_request.go:397", #[⟨4, .data⟩, ⟨4, .data⟩], none⟩
def ra8o6 : Oper := ⟨some 34, .convert 22 9 (.tmp 33), 9, "l10_request.go:397", #[⟨5, .data⟩], none⟩
def ra8o7 : Oper := ⟨some 35, .buildSlice 28 3 #[(0, .const (.string { data := #[] })), (1, .const (.string { data := #[97] })), (2, .tmp 34)], 28, "l10_request.go:397", #[⟨6, .data⟩], none⟩
def ra8o8 : Oper := ⟨some 36, .move (.tmp 0), 61, "l10_request.go:397", #[], none⟩
def ra8o9 : Oper := ⟨some 37, .call { callee := .value (.func 36), args := #[.tmp 36, .const (.int .i64 3)], argTypes := #[61, 2] }, 2, "l10_request.go:397", #[⟨8, .data⟩, ⟨3, .chain⟩], none⟩
def ra8o10 : Oper := ⟨some 38, .indexAddr 28 (.tmp 35) (.tmp 37), 0, "l10_request.go:397", #[⟨7, .data⟩, ⟨9, .data⟩], none⟩
def ra8o11 : Oper := ⟨some 39, .load 9 (.tmp 38), 9, "l10_request.go:397", #[⟨10, .data⟩], none⟩
def ra8o12 : Oper := ⟨some 40, .build 66 #[(0, .tmp 39), (1, .const (.string { data := #[120] }))], 66, "l10_request.go:397", #[⟨11, .data⟩], none⟩
def ra8o13 : Oper := ⟨some 41, .buildSlice 23 1 #[(0, .tmp 40)], 23, "l10_request.go:397", #[⟨12, .data⟩], none⟩
def ra8o14 : Oper := ⟨some 42, .call { callee := .builtin Builtin.append, args := #[.tmp 29, .tmp 41], argTypes := #[23, 23] }, 23, "l10_request.go:397", #[⟨1, .data⟩, ⟨13, .data⟩, ⟨9, .chain⟩], none⟩
def ra8o15 : Oper := ⟨some 43, .fieldAddr 25 (.tmp 3) 2, 0, "l10_request.go:397", #[⟨0, .phase⟩, ⟨1, .phase⟩, ⟨2, .phase⟩, ⟨3, .phase⟩, ⟨4, .phase⟩, ⟨5, .phase⟩, ⟨6, .phase⟩, ⟨7, .phase⟩, ⟨8, .phase⟩, ⟨9, .phase⟩, ⟨10, .phase⟩, ⟨11, .phase⟩, ⟨12, .phase⟩, ⟨13, .phase⟩, ⟨14, .phase⟩], none⟩
def ra8o16 : Oper := ⟨none, .store 23 (.tmp 43) (.tmp 42), 0, "l10_request.go:397", #[⟨15, .data⟩, ⟨14, .data⟩, ⟨14, .chain⟩, ⟨0, .phase⟩, ⟨1, .phase⟩, ⟨2, .phase⟩, ⟨3, .phase⟩, ⟨4, .phase⟩, ⟨5, .phase⟩, ⟨6, .phase⟩, ⟨7, .phase⟩, ⟨8, .phase⟩, ⟨9, .phase⟩, ⟨10, .phase⟩, ⟨11, .phase⟩, ⟨12, .phase⟩, ⟨13, .phase⟩, ⟨14, .phase⟩], none⟩
def ra8O : Array Oper := #[ra8o0, ra8o1, ra8o2, ra8o3, ra8o4, ra8o5, ra8o6, ra8o7, ra8o8, ra8o9, ra8o10, ra8o11, ra8o12, ra8o13, ra8o14, ra8o15, ra8o16]
structure ra8P where
 (W0 w0 : World)
 (c : Nat)
 (a : Option Addr)
 (len cap p XR XB B : Nat)
 (zr : Array Value)
 (y0 y1 y3 y4 : Value)
 (aL : Option Addr)
 (cL : Nat)
 (L : List Hp)
 (BO : Nat)
 (aO : Option Addr)
 (nO cO : Nat)
 (LO : List Hp)
 (s1 s4 s5 s6 s7 s8 s9 s10 s11 s12 s13 s14 s15 s16 s17 s18 s19 s20 s21 s22 s23 s24 s25 s26 s27 s28 s29 s30 s31 s32 s33 s34 s35 s36 s37 s38 s39 s40 s41 s42 s43 s44 s45 s46 s47 s48 s49 s50 s51 s52 s53 s54 s55 s56 s57 s58 s59 s60 s61 s62 s63 s64 s65 s66 s67 s68 s69 s70 s71 : Value)
def ra8T (P : ra8P) (R3 : Nat) (X5 : Nat) (x6 : ByteArray) (X7 : Nat) (R9 : Nat) (x11 : ByteArray) (X13 : Nat) (G : Nat) (CP : Nat) (pp : Nat) (b0 b1 b2 b3 b4 b5 b6 b7 b8 b9 b10 b11 b12 b13 b14 b15 b16 : Bool) : Array Value := #[.pointer (some ⟨P.c, 0, none⟩), P.s1, .pointer (some ⟨P.XR, 0, none⟩), .pointer (some ⟨P.XB, 0, none⟩), P.s4, P.s5, P.s6, P.s7, P.s8, P.s9, P.s10, P.s11, P.s12, P.s13, P.s14, P.s15, P.s16, P.s17, P.s18, P.s19, P.s20, P.s21, P.s22, P.s23, P.s24, P.s25, P.s26, P.s27, sel b0 (.pointer (some ⟨P.XB, 2, none⟩)) (P.s28), sel b1 (.slice P.aL P.L.length P.cL) (P.s29), sel b2 (.pointer (some ⟨P.c, 0, none⟩)) (P.s30), sel b3 (.int .i64 (R3 : Int)) (P.s31), sel b4 (.int .i64 (100 + (R3 : Int))) (P.s32), sel b5 (.slice (some ⟨X5, 0, none⟩) (100 + R3) (100 + R3)) (P.s33), sel b6 (.string x6) (P.s34), sel b7 (.slice (some ⟨X7, 0, none⟩) 3 3) (P.s35), sel b8 (.pointer (some ⟨P.c, 0, none⟩)) (P.s36), sel b9 (.int .i64 (R9 : Int)) (P.s37), sel b10 (.pointer (some ⟨X7, R9, none⟩)) (P.s38), sel b11 (.string x11) (P.s39), sel b12 (.agg #[.string x11, .string ⟨#[120]⟩]) (P.s40), sel b13 (.slice (some ⟨X13, 0, none⟩) 1 1) (P.s41), sel b14 (.slice (some ⟨G, 0, none⟩) (P.L.length + 1) CP) (P.s42), sel b15 (.pointer (some ⟨P.XB, 2, none⟩)) (P.s43), P.s44, P.s45, P.s46, P.s47, P.s48, P.s49, P.s50, P.s51, P.s52, P.s53, P.s54, P.s55, P.s56, P.s57, P.s58, P.s59, P.s60, P.s61, P.s62, P.s63, P.s64, P.s65, P.s66, P.s67, P.s68, P.s69, P.s70, P.s71]
def ra8F (P : ra8P) (R3 : Nat) (X5 : Nat) (x6 : ByteArray) (X7 : Nat) (R9 : Nat) (x11 : ByteArray) (X13 : Nat) (G : Nat) (CP : Nat) (pp : Nat) (b0 b1 b2 b3 b4 b5 b6 b7 b8 b9 b10 b11 b12 b13 b14 b15 b16 : Bool) (w : World) : Prop := (Src P.W0 w P.c P.a P.len P.cap pp) ∧ (pp ≤ P.p + 40 * (b3.toNat + b9.toNat)) ∧ (P.w0.grownBy w (some P.c)) ∧ (RowAt w P.XB 25 (cond b16 #[P.y0, P.y1, .slice (some ⟨G, 0, none⟩) (P.L.length + 1) CP, P.y3, P.y4] #[P.y0, P.y1, .slice P.aL P.L.length P.cL, P.y3, P.y4])) ∧ (RowAt w P.XR 25 P.zr) ∧ (P.B ≤ w.heap.size) ∧ (P.c < P.XB ∧ P.c < P.B ∧ P.w0.heap.size ≤ P.B ∧ P.XR ≠ P.XB ∧ P.w0.heap.size ≤ P.XB ∧ P.W0.heap.size ≤ P.c ∧ P.p ≤ 900000 ∧ P.c ≠ P.XR) ∧ (b14 = false → OwnHp w P.B (.slice P.aL P.L.length P.cL) P.L) ∧ (b14 = true → OwnHp w P.B (.slice (some ⟨G, 0, none⟩) (P.L.length + 1) CP) (P.L ++ [(⟨x11, ⟨#[120]⟩⟩ : Hp)])) ∧ (P.L.length ≤ 1000) ∧ (OwnHp w P.BO (.slice P.aO P.nO P.cO) P.LO ∧ P.c < P.BO ∧ ((Value.slice P.aO P.nO P.cO).ownBlock = none ∨ (Value.slice P.aO P.nO P.cO).ownBlock ≠ (cond b14 (Value.slice (some ⟨G, 0, none⟩) (P.L.length + 1) CP) (Value.slice P.aL P.L.length P.cL)).ownBlock)) ∧ (b3 = true → R3 < 2) ∧ (b5 = true → b14 = false → OwnNums w P.B 5 .u8 (.slice (some ⟨X5, 0, none⟩) (100 + R3) (100 + R3)) (List.replicate (100 + R3) 0)) ∧ (b6 = true → x6.size ≤ 102) ∧ (b7 = true → b14 = false → RowAt w X7 9 #[.string ⟨#[]⟩, .string ⟨#[97]⟩, .string x6] ∧ P.B ≤ X7) ∧ (b9 = true → R9 < 3) ∧ (b11 = true → x11.size ≤ 102) ∧ (b13 = true → b14 = false → RowAt w X13 66 #[.string x11, .string ⟨#[120]⟩] ∧ P.B ≤ X13)
def ra8I (P : ra8P) (l : Array Bool) (f : Act) (w : World) : Prop :=
 ∃ (b0 b1 b2 b3 b4 b5 b6 b7 b8 b9 b10 b11 b12 b13 b14 b15 b16 : Bool) (R3 : Nat) (X5 : Nat) (x6 : ByteArray) (X7 : Nat) (R9 : Nat) (x11 : ByteArray) (X13 : Nat) (G : Nat) (CP : Nat) (pp : Nat), l = #[b0, b1, b2, b3, b4, b5, b6, b7, b8, b9, b10, b11, b12, b13, b14, b15, b16] ∧ f = { tmps := ra8T P R3 X5 x6 X7 R9 x11 X13 G CP pp b0 b1 b2 b3 b4 b5 b6 b7 b8 b9 b10 b11 b12 b13 b14 b15 b16, defers := [] } ∧ ra8F P R3 X5 x6 X7 R9 x11 X13 G CP pp b0 b1 b2 b3 b4 b5 b6 b7 b8 b9 b10 b11 b12 b13 b14 b15 b16 w
theorem ra8M {P : ra8P} {b0 b1 b2 b3 b4 b5 b6 b7 b8 b9 b10 b11 b12 b13 b14 b15 b16 : Bool} (R3 : Nat) (X5 : Nat) (x6 : ByteArray) (X7 : Nat) (R9 : Nat) (x11 : ByteArray) (X13 : Nat) (G : Nat) (CP : Nat) (pp : Nat) {l : Array Bool} {f : Act} {w : World} (hl : l = #[b0, b1, b2, b3, b4, b5, b6, b7, b8, b9, b10, b11, b12, b13, b14, b15, b16]) (hf : f = { tmps := ra8T P R3 X5 x6 X7 R9 x11 X13 G CP pp b0 b1 b2 b3 b4 b5 b6 b7 b8 b9 b10 b11 b12 b13 b14 b15 b16, defers := [] }) (h : ra8F P R3 X5 x6 X7 R9 x11 X13 G CP pp b0 b1 b2 b3 b4 b5 b6 b7 b8 b9 b10 b11 b12 b13 b14 b15 b16 w) : ra8I P l f w := ⟨b0, b1, b2, b3, b4, b5, b6, b7, b8, b9, b10, b11, b12, b13, b14, b15, b16, R3, X5, x6, X7, R9, x11, X13, G, CP, pp, hl, hf, h⟩
set_option maxRecDepth 20000 in
set_option maxHeartbeats 20000000 in
theorem ra8_step {Q : Exit → Act → World → Prop} (P : ra8P) (l : Array Bool) (f : Act) (w : World) (hC : Closed ra8O l) (hI : ra8I P l f w) (i : Nat) (h0 : l.getD i true = false) (o : Oper) (ho : ra8O[i]? = some o) (h1 : ∀ e ∈ o.after, Region.binds .any e = true → l.getD e.on false = true) : wpOp Tryz.prog ra8O Q i (ra8I P (l.setIfInBounds i true)) f w := by
 obtain ⟨b0, b1, b2, b3, b4, b5, b6, b7, b8, b9, b10, b11, b12, b13, b14, b15, b16, R3, X5, x6, X7, R9, x11, X13, G, CP, pp, rfl, rfl, hF⟩ := hI
 have hi : i < 17 := by
  rcases Nat.lt_or_ge i 17 with h | h
  · exact h
  · rw [show ra8O[i]? = none from Array.getElem?_eq_none h] at ho; cases ho
 rcases (by omega : i = 0 ∨ i = 1 ∨ i = 2 ∨ i = 3 ∨ i = 4 ∨ i = 5 ∨ i = 6 ∨ i = 7 ∨ i = 8 ∨ i = 9 ∨ i = 10 ∨ i = 11 ∨ i = 12 ∨ i = 13 ∨ i = 14 ∨ i = 15 ∨ i = 16) with rfl | rfl | rfl | rfl | rfl | rfl | rfl | rfl | rfl | rfl | rfl | rfl | rfl | rfl | rfl | rfl | rfl
 · obtain rfl : ra8o0 = o := Option.some.inj ho
   obtain rfl : b0 = false := h0
   have hn := wayN_all hC (i := 0) rfl [(1, 0), (14, 1), (15, 0), (16, 0)] [] nk rfl; repeat (obtain ⟨rfl, hn⟩ := hn)
   obtain ⟨hS, hp, hg, hbox, hR, hBz, hst, ho1, ho2, hLn, hoO, hR3, hX5, hx6, hX7, hR9, hx11, hX13⟩ := hF
   refine wpOp_step (o := ra8o0) rfl (fun K hK => ?_)
   replace hK := hid hK
   simp only [ra8o0, ra8T, sel_f]
   go_simp
   exact hK.out _ _ (ra8M R3 X5 x6 X7 R9 x11 X13 G CP pp rfl rfl ⟨hS, hp, hg, hbox, hR, hBz, hst, ho1, ho2, hLn, hoO, hR3, hX5, hx6, hX7, hR9, hx11, hX13⟩)
 · obtain rfl : ra8o1 = o := Option.some.inj ho
   obtain rfl : b1 = false := h0
   have hn := wayP_all (o := ra8o1) hC h1 [(0, none)] [] nk rfl; repeat (obtain ⟨rfl, hn⟩ := hn)
   have hn := wayN_all hC (i := 1) rfl [(14, 1), (15, 1), (16, 1)] [] nk rfl; repeat (obtain ⟨rfl, hn⟩ := hn)
   obtain ⟨hS, hp, hg, hbox, hR, hBz, hst, ho1, ho2, hLn, hoO, hR3, hX5, hx6, hX7, hR9, hx11, hX13⟩ := hF
   have q := hbox.cell 2
   refine wpOp_step (o := ra8o1) rfl (fun K hK => ?_)
   replace hK := hid hK
   simp only [ra8o1, ra8T, sel_t, sel_f]
   go_simp
   exact hK.out _ _ (ra8M R3 X5 x6 X7 R9 x11 X13 G CP pp rfl rfl ⟨hS, hp, hg, hbox, hR, hBz, hst, ho1, ho2, hLn, hoO, hR3, hX5, hx6, hX7, hR9, hx11, hX13⟩)
 · obtain rfl : ra8o2 = o := Option.some.inj ho
   obtain rfl : b2 = false := h0
   have hn := wayN_all hC (i := 2) rfl [(3, 2), (4, 3), (5, 4), (6, 5), (7, 6), (9, 3), (10, 7), (11, 10), (12, 11), (13, 12), (14, 9), (15, 2), (16, 2)] [] nk rfl; repeat (obtain ⟨rfl, hn⟩ := hn)
   obtain ⟨hS, hp, hg, hbox, hR, hBz, hst, ho1, ho2, hLn, hoO, hR3, hX5, hx6, hX7, hR9, hx11, hX13⟩ := hF
   simp only [Bool.toNat_false] at hp
   refine wpOp_step (o := ra8o2) rfl (fun K hK => ?_)
   replace hK := hid hK
   simp only [ra8o2, ra8T, sel_f]
   go_simp
   exact hK.out _ _ (ra8M R3 X5 x6 X7 R9 x11 X13 G CP pp rfl rfl ⟨hS, hp, hg, hbox, hR, hBz, hst, ho1, ho2, hLn, hoO, hR3, hX5, hx6, hX7, hR9, hx11, hX13⟩)
 · obtain rfl : ra8o3 = o := Option.some.inj ho
   obtain rfl : b3 = false := h0
   have hn := wayP_all (o := ra8o3) hC h1 [(2, none)] [] nk rfl; repeat (obtain ⟨rfl, hn⟩ := hn)
   have hn := wayN_all hC (i := 3) rfl [(4, 3), (5, 4), (6, 5), (7, 6), (9, 3), (10, 7), (11, 10), (12, 11), (13, 12), (14, 9), (15, 3), (16, 3)] [] nk rfl; repeat (obtain ⟨rfl, hn⟩ := hn)
   obtain ⟨hS, hp, hg, hbox, hR, hBz, hst, ho1, ho2, hLn, hoO, hR3, hX5, hx6, hX7, hR9, hx11, hX13⟩ := hF
   simp only [Bool.toNat_false] at hp
   have hcB : P.c < P.B := by omega
   refine wpOp_step (o := ra8o3) rfl (fun K hK => ?_)
   replace hK := hid hK
   simp only [ra8o3, ra8T, sel_t, sel_f]
   go_simp
   refine (n_all P.W0 _ P.c P.a P.len P.cap pp 2 hS (by omega) (by omega) (by omega)).mono ?_
   rintro e w2 ⟨⟨r, rfl, h20, h21⟩, hs2, hg2⟩
   obtain ⟨R, rfl⟩ := Int.eq_ofNat_of_zero_le h20
   dsimp only
   exact hK.out _ _ (ra8M R X5 x6 X7 R9 x11 X13 G CP (pp + 1) rfl rfl ⟨hs2, by show pp + 1 ≤ P.p + 40 * (1 + 0); omega, grown_trans hg hg2, rowF hbox hg2 hst.1, rowF2 hR hg2 hst.2.2.2.2.2.2.2, Nat.le_trans hBz hg2.size, hst, fun h => OwnHp.keptC (ho1 h) hg2 (by omega), fun h => Bool.noConfusion h, hLn, ⟨OwnHp.keptC hoO.1 hg2 hoO.2.1, hoO.2⟩, fun _ => by omega, fun h => Bool.noConfusion h, hx6, fun h => Bool.noConfusion h, hR9, hx11, fun h => Bool.noConfusion h⟩)
 · obtain rfl : ra8o4 = o := Option.some.inj ho
   obtain rfl : b4 = false := h0
   have hn := wayP_all (o := ra8o4) hC h1 [(3, none), (2, some 3)] [] nk rfl; repeat (obtain ⟨rfl, hn⟩ := hn)
   have hn := wayN_all hC (i := 4) rfl [(5, 4), (6, 5), (7, 6), (10, 7), (11, 10), (12, 11), (13, 12), (14, 13), (15, 4), (16, 4)] [] nk rfl; repeat (obtain ⟨rfl, hn⟩ := hn)
   obtain ⟨hS, hp, hg, hbox, hR, hBz, hst, ho1, ho2, hLn, hoO, hR3, hX5, hx6, hX7, hR9, hx11, hX13⟩ := hF
   simp only [Bool.toNat_true] at hp
   have r := hR3 rfl
   have wz : IntKind.i64.wrap (100 + (R3 : Int)) = 100 + (R3 : Int) := by simp [IntKind.wrap, IntKind.bits, IntKind.signed]; omega
   refine wpOp_step (o := ra8o4) rfl (fun K hK => ?_)
   replace hK := hid hK
   simp only [ra8o4, ra8T, sel_t, sel_f]
   go_simp
   skip
   exact hK.out _ _ (ra8M R3 X5 x6 X7 R9 x11 X13 G CP pp rfl rfl ⟨hS, hp, hg, hbox, hR, hBz, hst, ho1, ho2, hLn, hoO, hR3, hX5, hx6, hX7, hR9, hx11, hX13⟩)
 · obtain rfl : ra8o5 = o := Option.some.inj ho
   obtain rfl : b5 = false := h0
   have hn := wayP_all (o := ra8o5) hC h1 [(4, none), (3, some 4), (2, some 3)] [] nk rfl; repeat (obtain ⟨rfl, hn⟩ := hn)
   have hn := wayN_all hC (i := 5) rfl [(6, 5), (7, 6), (10, 7), (11, 10), (12, 11), (13, 12), (14, 13), (15, 5), (16, 5)] [] nk rfl; repeat (obtain ⟨rfl, hn⟩ := hn)
   obtain ⟨hS, hp, hg, hbox, hR, hBz, hst, ho1, ho2, hLn, hoO, hR3, hX5, hx6, hX7, hR9, hx11, hX13⟩ := hF
   simp only [Bool.toNat_true] at hp
   have r := hR3 rfl
   have ce : (((100 + R3) : Nat) : Int) = 100 + (R3 : Int) := by omega
   have hmk := fun w => mk_bytes w (100 + R3) (by omega)
   simp only [ce] at hmk
   refine wpOp_step (o := ra8o5) rfl (fun K hK => ?_)
   replace hK := hid hK
   simp only [ra8o5, ra8T, sel_t, sel_f]
   go_simp
   exact hK.out _ _ (ra8M R3 w.heap.size x6 X7 R9 x11 X13 G CP pp rfl rfl ⟨hS.alloc _, hp, grown_al hg _, hbox.alloc _, hR.alloc _, by simp only [World.size_alloc]; omega, hst, fun h => World.ownsRow.alloc (ho1 h) _, fun h => Bool.noConfusion h, hLn, ⟨World.ownsRow.alloc hoO.1 _, hoO.2⟩, hR3, fun _ _ => (own_made w (100 + R3) (by omega)).monoD hBz, hx6, fun h => Bool.noConfusion h, hR9, hx11, fun h => Bool.noConfusion h⟩)
 · obtain rfl : ra8o6 = o := Option.some.inj ho
   obtain rfl : b6 = false := h0
   have hn := wayP_all (o := ra8o6) hC h1 [(5, none), (4, some 5), (3, some 4), (2, some 3)] [] nk rfl; repeat (obtain ⟨rfl, hn⟩ := hn)
   have hn := wayN_all hC (i := 6) rfl [(7, 6), (10, 7), (11, 10), (12, 11), (13, 12), (14, 13), (15, 6), (16, 6)] [] nk rfl; repeat (obtain ⟨rfl, hn⟩ := hn)
   obtain ⟨hS, hp, hg, hbox, hR, hBz, hst, ho1, ho2, hLn, hoO, hR3, hX5, hx6, hX7, hR9, hx11, hX13⟩ := hF
   simp only [Bool.toNat_true] at hp
   have hcv := conv_owned w 22 5 9 Tryz.underlying22 Tryz.underlying5 Tryz.underlying9 (hX5 rfl rfl)
   have r := hR3 rfl
   refine wpOp_step (o := ra8o6) rfl (fun K hK => ?_)
   replace hK := hid hK
   simp only [ra8o6, ra8T, sel_t, sel_f]
   go_simp
   exact hK.out _ _ (ra8M R3 X5 ((strOfNums (List.replicate (100 + R3) 0))) X7 R9 x11 X13 G CP pp rfl rfl ⟨hS, hp, hg, hbox, hR, hBz, hst, ho1, fun h => Bool.noConfusion h, hLn, hoO, hR3, hX5, fun _ => by rw [strOfNums_size, List.length_replicate]; omega, fun h => Bool.noConfusion h, hR9, hx11, fun h => Bool.noConfusion h⟩)
 · obtain rfl : ra8o7 = o := Option.some.inj ho
   obtain rfl : b7 = false := h0
   have hn := wayP_all (o := ra8o7) hC h1 [(6, none), (5, some 6), (4, some 5), (3, some 4), (2, some 3)] [] nk rfl; repeat (obtain ⟨rfl, hn⟩ := hn)
   have hn := wayN_all hC (i := 7) rfl [(10, 7), (11, 10), (12, 11), (13, 12), (14, 13), (15, 7), (16, 7)] [] nk rfl; repeat (obtain ⟨rfl, hn⟩ := hn)
   obtain ⟨hS, hp, hg, hbox, hR, hBz, hst, ho1, ho2, hLn, hoO, hR3, hX5, hx6, hX7, hR9, hx11, hX13⟩ := hF
   simp only [Bool.toNat_true] at hp
   refine wpOp_step (o := ra8o7) rfl (fun K hK => ?_)
   replace hK := hid hK
   simp only [ra8o7, ra8T, sel_t, sel_f]
   go_simp
   exact hK.out _ _ (ra8M R3 X5 x6 w.heap.size R9 x11 X13 G CP pp rfl rfl ⟨hS.alloc _, hp, grown_al hg _, hbox.alloc _, hR.alloc _, by simp only [World.size_alloc]; omega, hst, fun h => World.ownsRow.alloc (ho1 h) _, fun h => Bool.noConfusion h, hLn, ⟨World.ownsRow.alloc hoO.1 _, hoO.2⟩, hR3, fun h e => World.ownsRow.alloc (hX5 h e) _, hx6, fun _ _ => ⟨RowAt.new w _ _, hBz⟩, hR9, hx11, fun h => Bool.noConfusion h⟩)
 · obtain rfl : ra8o8 = o := Option.some.inj ho
   obtain rfl : b8 = false := h0
   have hn := wayN_all hC (i := 8) rfl [(9, 8), (10, 9), (11, 10), (12, 11), (13, 12), (14, 9), (15, 8), (16, 8)] [] nk rfl; repeat (obtain ⟨rfl, hn⟩ := hn)
   obtain ⟨hS, hp, hg, hbox, hR, hBz, hst, ho1, ho2, hLn, hoO, hR3, hX5, hx6, hX7, hR9, hx11, hX13⟩ := hF
   simp only [Bool.toNat_false] at hp
   refine wpOp_step (o := ra8o8) rfl (fun K hK => ?_)
   replace hK := hid hK
   simp only [ra8o8, ra8T, sel_f]
   go_simp
   exact hK.out _ _ (ra8M R3 X5 x6 X7 R9 x11 X13 G CP pp rfl rfl ⟨hS, hp, hg, hbox, hR, hBz, hst, ho1, ho2, hLn, hoO, hR3, hX5, hx6, hX7, hR9, hx11, hX13⟩)
 · obtain rfl : ra8o9 = o := Option.some.inj ho
   obtain rfl : b9 = false := h0
   have hn := wayP_all (o := ra8o9) hC h1 [(8, none), (3, none), (2, some 3)] [] nk rfl; repeat (obtain ⟨rfl, hn⟩ := hn)
   have hn := wayN_all hC (i := 9) rfl [(10, 9), (11, 10), (12, 11), (13, 12), (14, 9), (15, 9), (16, 9)] [] nk rfl; repeat (obtain ⟨rfl, hn⟩ := hn)
   obtain ⟨hS, hp, hg, hbox, hR, hBz, hst, ho1, ho2, hLn, hoO, hR3, hX5, hx6, hX7, hR9, hx11, hX13⟩ := hF
   simp only [Bool.toNat_true, Bool.toNat_false] at hp
   have hcB : P.c < P.B := by omega
   refine wpOp_step (o := ra8o9) rfl (fun K hK => ?_)
   replace hK := hid hK
   simp only [ra8o9, ra8T, sel_t, sel_f]
   go_simp
   refine (n_all P.W0 _ P.c P.a P.len P.cap pp 3 hS (by omega) (by omega) (by omega)).mono ?_
   rintro e w2 ⟨⟨r, rfl, h20, h21⟩, hs2, hg2⟩
   obtain ⟨R, rfl⟩ := Int.eq_ofNat_of_zero_le h20
   dsimp only
   exact hK.out _ _ (ra8M R3 X5 x6 X7 R x11 X13 G CP (pp + 1) rfl rfl ⟨hs2, by show pp + 1 ≤ P.p + 40 * (1 + 1); omega, grown_trans hg hg2, rowF hbox hg2 hst.1, rowF2 hR hg2 hst.2.2.2.2.2.2.2, Nat.le_trans hBz hg2.size, hst, fun h => OwnHp.keptC (ho1 h) hg2 (by omega), fun h => Bool.noConfusion h, hLn, ⟨OwnHp.keptC hoO.1 hg2 hoO.2.1, hoO.2⟩, hR3, fun h e => OwnNums.kept (hX5 h e) hg2 (by omega), hx6, fun h e => ⟨rowF (hX7 h e).1 hg2 (by have := (hX7 h e).2; omega), (hX7 h e).2⟩, fun _ => by omega, hx11, fun h => Bool.noConfusion h⟩)
 · obtain rfl : ra8o10 = o := Option.some.inj ho
   obtain rfl : b10 = false := h0
   have hn := wayP_all (o := ra8o10) hC h1 [(9, none), (7, none), (3, some 9), (8, some 9), (6, some 7), (5, some 6), (4, some 5), (2, some 3)] [] nk rfl; repeat (obtain ⟨rfl, hn⟩ := hn)
   have hn := wayN_all hC (i := 10) rfl [(11, 10), (12, 11), (13, 12), (14, 13), (15, 10), (16, 10)] [] nk rfl; repeat (obtain ⟨rfl, hn⟩ := hn)
   obtain ⟨hS, hp, hg, hbox, hR, hBz, hst, ho1, ho2, hLn, hoO, hR3, hX5, hx6, hX7, hR9, hx11, hX13⟩ := hF
   simp only [Bool.toNat_true] at hp
   have r := hR9 rfl
   have r0 : (R9 : Int) < 3 := by omega
   refine wpOp_step (o := ra8o10) rfl (fun K hK => ?_)
   replace hK := hid hK
   simp only [ra8o10, ra8T, sel_t, sel_f]
   go_simp
   exact hK.out _ _ (ra8M R3 X5 x6 X7 R9 x11 X13 G CP pp rfl rfl ⟨hS, hp, hg, hbox, hR, hBz, hst, ho1, ho2, hLn, hoO, hR3, hX5, hx6, hX7, hR9, hx11, hX13⟩)
 · obtain rfl : ra8o11 = o := Option.some.inj ho
   obtain rfl : b11 = false := h0
   have hn := wayP_all (o := ra8o11) hC h1 [(10, none), (7, some 10), (9, some 10), (3, some 9), (8, some 9), (6, some 7), (5, some 6), (4, some 5), (2, some 3)] [] nk rfl; repeat (obtain ⟨rfl, hn⟩ := hn)
   have hn := wayN_all hC (i := 11) rfl [(12, 11), (13, 12), (14, 13), (15, 11), (16, 11)] [] nk rfl; repeat (obtain ⟨rfl, hn⟩ := hn)
   obtain ⟨hS, hp, hg, hbox, hR, hBz, hst, ho1, ho2, hLn, hoO, hR3, hX5, hx6, hX7, hR9, hx11, hX13⟩ := hF
   simp only [Bool.toNat_true] at hp
   obtain ⟨tt, hk2, htt⟩ := ra8_tab7 x6 (hx6 rfl) R9 (hR9 rfl)
   have c2 := ((hX7 rfl rfl).1.cell R9).trans hk2
   refine wpOp_step (o := ra8o11) rfl (fun K hK => ?_)
   replace hK := hid hK
   simp only [ra8o11, ra8T, sel_t, sel_f]
   go_simp
   exact hK.out _ _ (ra8M R3 X5 x6 X7 R9 tt X13 G CP pp rfl rfl ⟨hS, hp, hg, hbox, hR, hBz, hst, ho1, fun h => Bool.noConfusion h, hLn, hoO, hR3, hX5, hx6, hX7, hR9, fun _ => htt, fun h => Bool.noConfusion h⟩)
 · obtain rfl : ra8o12 = o := Option.some.inj ho
   obtain rfl : b12 = false := h0
   have hn := wayP_all (o := ra8o12) hC h1 [(11, none), (10, some 11), (7, some 10), (9, some 10), (3, some 9), (8, some 9), (6, some 7), (5, some 6), (4, some 5), (2, some 3)] [] nk rfl; repeat (obtain ⟨rfl, hn⟩ := hn)
   have hn := wayN_all hC (i := 12) rfl [(13, 12), (14, 13), (15, 12), (16, 12)] [] nk rfl; repeat (obtain ⟨rfl, hn⟩ := hn)
   obtain ⟨hS, hp, hg, hbox, hR, hBz, hst, ho1, ho2, hLn, hoO, hR3, hX5, hx6, hX7, hR9, hx11, hX13⟩ := hF
   simp only [Bool.toNat_true] at hp
   refine wpOp_step (o := ra8o12) rfl (fun K hK => ?_)
   replace hK := hid hK
   simp only [ra8o12, ra8T, sel_t, sel_f]
   go_simp
   exact hK.out _ _ (ra8M R3 X5 x6 X7 R9 x11 X13 G CP pp rfl rfl ⟨hS, hp, hg, hbox, hR, hBz, hst, ho1, ho2, hLn, hoO, hR3, hX5, hx6, hX7, hR9, hx11, hX13⟩)
 · obtain rfl : ra8o13 = o := Option.some.inj ho
   obtain rfl : b13 = false := h0
   have hn := wayP_all (o := ra8o13) hC h1 [(12, none), (11, some 12), (10, some 11), (7, some 10), (9, some 10), (3, some 9), (8, some 9), (6, some 7), (5, some 6), (4, some 5), (2, some 3)] [] nk rfl; repeat (obtain ⟨rfl, hn⟩ := hn)
   have hn := wayN_all hC (i := 13) rfl [(14, 13), (15, 13), (16, 13)] [] nk rfl; repeat (obtain ⟨rfl, hn⟩ := hn)
   obtain ⟨hS, hp, hg, hbox, hR, hBz, hst, ho1, ho2, hLn, hoO, hR3, hX5, hx6, hX7, hR9, hx11, hX13⟩ := hF
   simp only [Bool.toNat_true] at hp
   refine wpOp_step (o := ra8o13) rfl (fun K hK => ?_)
   replace hK := hid hK
   simp only [ra8o13, ra8T, sel_t, sel_f]
   go_simp
   exact hK.out _ _ (ra8M R3 X5 x6 X7 R9 x11 w.heap.size G CP pp rfl rfl ⟨hS.alloc _, hp, grown_al hg _, hbox.alloc _, hR.alloc _, by simp only [World.size_alloc]; omega, hst, fun h => World.ownsRow.alloc (ho1 h) _, fun h => Bool.noConfusion h, hLn, ⟨World.ownsRow.alloc hoO.1 _, hoO.2⟩, hR3, fun h e => World.ownsRow.alloc (hX5 h e) _, hx6, fun h e => ⟨(hX7 h e).1.alloc _, (hX7 h e).2⟩, hR9, hx11, fun _ _ => ⟨RowAt.new w _ _, hBz⟩⟩)
 · obtain rfl : ra8o14 = o := Option.some.inj ho
   obtain rfl : b14 = false := h0
   have hn := wayP_all (o := ra8o14) hC h1 [(13, none), (9, none), (1, none), (12, some 13), (11, some 12), (10, some 11), (7, some 10), (3, some 9), (8, some 9), (6, some 7), (5, some 6), (4, some 5), (2, some 3), (0, some 1)] [] nk rfl; repeat (obtain ⟨rfl, hn⟩ := hn)
   have hn := wayN_all hC (i := 14) rfl [(15, 14), (16, 14)] [] nk rfl; repeat (obtain ⟨rfl, hn⟩ := hn)
   obtain ⟨hS, hp, hg, hbox, hR, hBz, hst, ho1, ho2, hLn, hoO, hR3, hX5, hx6, hX7, hR9, hx11, hX13⟩ := hF
   simp only [Bool.toNat_true] at hp
   refine wpOp_step (o := ra8o14) rfl (fun K hK => ?_)
   replace hK := hid hK
   have hO := ho1 rfl
   refine step_append_hpE P.B _ (by rfl) _ _ 23 (by rfl) Tryz.underlying23 Tryz.infoHpF _ P.L x11 ⟨#[120]⟩ (by rfl) hO hBz X13 (hX13 rfl rfl).1 (by rfl) (by omega) ?_
   intro g3 c3 w3 hO3 hg3 hl3
   exact hK.out _ _ (ra8M R3 X5 x6 X7 R9 x11 X13 g3 c3 pp rfl rfl ⟨hS.far hg3 (OwnHp.apart hO (by omega)) (fun g hg => by have := (World.ownsRow.lt hO _ hg).1; omega), hp, grown_own hg hg3 (fun g hg => (World.ownsRow.lt hO _ hg).1) (by omega), row_grown hbox hg3 (OwnHp.neRow hO hbox (by decide)), row_grown hR hg3 (OwnHp.neRow hO hR (by decide)), Nat.le_trans hBz hg3.size, hst, fun h => Bool.noConfusion h, fun _ => hO3, hLn, ⟨World.ownsRow.kept hoO.1 hg3 hoO.2.2, hoO.2.1, apartE hoO.1 hoO.2.2 hl3⟩, hR3, fun h e => Bool.noConfusion e, hx6, fun h e => Bool.noConfusion e, hR9, hx11, fun h e => Bool.noConfusion e⟩)
 · obtain rfl : ra8o15 = o := Option.some.inj ho
   obtain rfl : b15 = false := h0
   have hn := wayP_all (o := ra8o15) hC h1 [(14, none), (13, none), (12, none), (11, none), (10, none), (9, none), (8, none), (7, none), (6, none), (5, none), (4, none), (3, none), (2, none), (1, none), (0, none)] [] nk rfl; repeat (obtain ⟨rfl, hn⟩ := hn)
   have hn := wayN_all hC (i := 15) rfl [(16, 15)] [] nk rfl; repeat (obtain ⟨rfl, hn⟩ := hn)
   obtain ⟨hS, hp, hg, hbox, hR, hBz, hst, ho1, ho2, hLn, hoO, hR3, hX5, hx6, hX7, hR9, hx11, hX13⟩ := hF
   simp only [Bool.toNat_true] at hp
   refine wpOp_step (o := ra8o15) rfl (fun K hK => ?_)
   replace hK := hid hK
   simp only [ra8o15, ra8T, sel_t, sel_f]
   go_simp
   exact hK.out _ _ (ra8M R3 X5 x6 X7 R9 x11 X13 G CP pp rfl rfl ⟨hS, hp, hg, hbox, hR, hBz, hst, ho1, ho2, hLn, hoO, hR3, hX5, hx6, hX7, hR9, hx11, hX13⟩)
 · obtain rfl : ra8o16 = o := Option.some.inj ho
   obtain rfl : b16 = false := h0
   have hn := wayP_all (o := ra8o16) hC h1 [(15, none), (14, none), (13, none), (12, none), (11, none), (10, none), (9, none), (8, none), (7, none), (6, none), (5, none), (4, none), (3, none), (2, none), (1, none), (0, none)] [] nk rfl; repeat (obtain ⟨rfl, hn⟩ := hn)
   obtain ⟨hS, hp, hg, hbox, hR, hBz, hst, ho1, ho2, hLn, hoO, hR3, hX5, hx6, hX7, hR9, hx11, hX13⟩ := hF
   simp only [Bool.toNat_true] at hp
   have hbx : RowAt w P.XB 25 #[P.y0, P.y1, .slice P.aL P.L.length P.cL, P.y3, P.y4] := hbox
   have q := hbx.cell 2
   have f := hbx.free 2
   refine wpOp_step (o := ra8o16) rfl (fun K hK => ?_)
   replace hK := hid hK
   simp only [ra8o16, ra8T, sel_t]
   go_simp
   exact hK.out _ _ (ra8M R3 X5 x6 X7 R9 x11 X13 G CP pp rfl rfl ⟨hS.set hst.1 2 _, hp, grown_far hg hst.2.2.2.2.1 2 _, hbx.set 2 _, hR.other ⟨P.XB, 2, none⟩ _ hst.2.2.2.1, by simp; omega, hst, fun h => Bool.noConfusion h, fun h => OwnHp.setCellN (ho2 h) (OwnHp.neRow (ho2 h) hbx (by decide)), hLn, ⟨OwnHp.setCellN hoO.1 (OwnHp.neRow hoO.1 hbx (by decide)), hoO.2⟩, hR3, fun h e => Bool.noConfusion e, hx6, fun h e => Bool.noConfusion e, hR9, hx11, fun h e => Bool.noConfusion e⟩)
set_option maxRecDepth 20000 in
set_option maxHeartbeats 4000000 in
theorem ra8_wp {Q : Exit → Act → World → Prop} {rid : Nat} (W0 w0 : World) (c : Nat) (a : Option Addr) (len cap p XR XB B : Nat) (zr : Array Value) (y0 y1 y3 y4 : Value) (aL : Option Addr) (cL : Nat) (L : List Hp) (BO : Nat) (aO : Option Addr) (nO cO : Nat) (LO : List Hp) {s1 s4 s5 s6 s7 s8 s9 s10 s11 s12 s13 s14 s15 s16 s17 s18 s19 s20 s21 s22 s23 s24 s25 s26 s27 s28 s29 s30 s31 s32 s33 s34 s35 s36 s37 s38 s39 s40 s41 s42 s43 s44 s45 s46 s47 s48 s49 s50 s51 s52 s53 s54 s55 s56 s57 s58 s59 s60 s61 s62 s63 s64 s65 s66 s67 s68 s69 s70 s71 : Value} (w : World) (hS : Src W0 w c a len cap p) (hg : w0.grownBy w (some c)) (hbox : RowAt w XB 25 #[y0, y1, .slice aL L.length cL, y3, y4]) (hR : RowAt w XR 25 zr) (hBz : B ≤ w.heap.size) (hst : c < XB ∧ c < B ∧ w0.heap.size ≤ B ∧ XR ≠ XB ∧ w0.heap.size ≤ XB ∧ W0.heap.size ≤ c ∧ p ≤ 900000 ∧ c ≠ XR) (ho1 : OwnHp w B (.slice aL L.length cL) L) (hLn : L.length ≤ 1000) (hoO : OwnHp w BO (.slice aO nO cO) LO ∧ c < BO ∧ ((Value.slice aO nO cO).ownBlock = none ∨ (Value.slice aO nO cO).ownBlock ≠ (Value.slice aL L.length cL).ownBlock))
 (fin : ∀ (R3 : Nat) (X5 : Nat) (x6 : ByteArray) (X7 : Nat) (R9 : Nat) (x11 : ByteArray) (X13 : Nat) (G : Nat) (CP : Nat) (pp : Nat) (w' : World), (Src W0 w' c a len cap pp) → (pp ≤ p + 40 * (1 + 1)) → (w0.grownBy w' (some c)) → (RowAt w' XB 25 #[y0, y1, .slice (some ⟨G, 0, none⟩) (L.length + 1) CP, y3, y4]) → (RowAt w' XR 25 zr) → (B ≤ w'.heap.size) → (c < XB ∧ c < B ∧ w0.heap.size ≤ B ∧ XR ≠ XB ∧ w0.heap.size ≤ XB ∧ W0.heap.size ≤ c ∧ p ≤ 900000 ∧ c ≠ XR) → (OwnHp w' B (.slice (some ⟨G, 0, none⟩) (L.length + 1) CP) (L ++ [(⟨x11, ⟨#[120]⟩⟩ : Hp)])) → (L.length ≤ 1000) → (OwnHp w' BO (.slice aO nO cO) LO ∧ c < BO ∧ ((Value.slice aO nO cO).ownBlock = none ∨ (Value.slice aO nO cO).ownBlock ≠ (cond true (Value.slice (some ⟨G, 0, none⟩) (L.length + 1) CP) (Value.slice aL L.length cL)).ownBlock)) → (R3 < 2) → (x6.size ≤ 102) → (R9 < 3) → (x11.size ≤ 102) → Q .normal { tmps := #[.pointer (some ⟨c, 0, none⟩), s1, .pointer (some ⟨XR, 0, none⟩), .pointer (some ⟨XB, 0, none⟩), s4, s5, s6, s7, s8, s9, s10, s11, s12, s13, s14, s15, s16, s17, s18, s19, s20, s21, s22, s23, s24, s25, s26, s27, .pointer (some ⟨XB, 2, none⟩), .slice aL L.length cL, .pointer (some ⟨c, 0, none⟩), .int .i64 (R3 : Int), .int .i64 (100 + (R3 : Int)), .slice (some ⟨X5, 0, none⟩) (100 + R3) (100 + R3), .string x6, .slice (some ⟨X7, 0, none⟩) 3 3, .pointer (some ⟨c, 0, none⟩), .int .i64 (R9 : Int), .pointer (some ⟨X7, R9, none⟩), .string x11, .agg #[.string x11, .string ⟨#[120]⟩], .slice (some ⟨X13, 0, none⟩) 1 1, .slice (some ⟨G, 0, none⟩) (L.length + 1) CP, .pointer (some ⟨XB, 2, none⟩), s44, s45, s46, s47, s48, s49, s50, s51, s52, s53, s54, s55, s56, s57, s58, s59, s60, s61, s62, s63, s64, s65, s66, s67, s68, s69, s70, s71], defers := [] } w') :
 (Code.region rid ra8O true).wp Tryz.prog Q { tmps := #[.pointer (some ⟨c, 0, none⟩), s1, .pointer (some ⟨XR, 0, none⟩), .pointer (some ⟨XB, 0, none⟩), s4, s5, s6, s7, s8, s9, s10, s11, s12, s13, s14, s15, s16, s17, s18, s19, s20, s21, s22, s23, s24, s25, s26, s27, s28, s29, s30, s31, s32, s33, s34, s35, s36, s37, s38, s39, s40, s41, s42, s43, s44, s45, s46, s47, s48, s49, s50, s51, s52, s53, s54, s55, s56, s57, s58, s59, s60, s61, s62, s63, s64, s65, s66, s67, s68, s69, s70, s71], defers := [] } w := by
 refine wp_region_inv (ops := ra8O) (ra8I ⟨W0, w0, c, a, len, cap, p, XR, XB, B, zr, y0, y1, y3, y4, aL, cL, L, BO, aO, nO, cO, LO, s1, s4, s5, s6, s7, s8, s9, s10, s11, s12, s13, s14, s15, s16, s17, s18, s19, s20, s21, s22, s23, s24, s25, s26, s27, s28, s29, s30, s31, s32, s33, s34, s35, s36, s37, s38, s39, s40, s41, s42, s43, s44, s45, s46, s47, s48, s49, s50, s51, s52, s53, s54, s55, s56, s57, s58, s59, s60, s61, s62, s63, s64, s65, s66, s67, s68, s69, s70, s71⟩) (by kernel_rfl) (by kernel_rfl) (fun l f v hI => ?_) (fun l f v hC hI i h0 o ho h1 => ra8_step ⟨W0, w0, c, a, len, cap, p, XR, XB, B, zr, y0, y1, y3, y4, aL, cL, L, BO, aO, nO, cO, LO, s1, s4, s5, s6, s7, s8, s9, s10, s11, s12, s13, s14, s15, s16, s17, s18, s19, s20, s21, s22, s23, s24, s25, s26, s27, s28, s29, s30, s31, s32, s33, s34, s35, s36, s37, s38, s39, s40, s41, s42, s43, s44, s45, s46, s47, s48, s49, s50, s51, s52, s53, s54, s55, s56, s57, s58, s59, s60, s61, s62, s63, s64, s65, s66, s67, s68, s69, s70, s71⟩ l f v hC hI i h0 o ho h1) (fun l f v hI hall => ?_) ?_
 · obtain ⟨_, _, _, _, _, _, _, _, _, _, _, _, _, _, _, _, _, _, _, _, _, _, _, _, _, _, _, rfl, _⟩ := hI; rfl
 · obtain ⟨b0, b1, b2, b3, b4, b5, b6, b7, b8, b9, b10, b11, b12, b13, b14, b15, b16, R3, X5, x6, X7, R9, x11, X13, G, CP, pp, rfl, rfl, hS, hp, hg, hbox, hR, hBz, hst, ho1, ho2, hLn, hoO, hR3, hX5, hx6, hX7, hR9, hx11, hX13⟩ := hI
   have hn := allT hall [0, 1, 2, 3, 4, 5, 6, 7, 8, 9, 10, 11, 12, 13, 14, 15, 16] rfl; repeat (obtain ⟨rfl, hn⟩ := hn)
   exact fin R3 X5 x6 X7 R9 x11 X13 G CP pp v hS hp hg hbox hR hBz hst (ho2 rfl) hLn hoO (hR3 rfl) (hx6 rfl) (hR9 rfl) (hx11 rfl)
 · exact ⟨false, false, false, false, false, false, false, false, false, false, false, false, false, false, false, false, false, 0, 0, ⟨#[]⟩, 0, 0, ⟨#[]⟩, 0, 0, 0, p, rfl, rfl, hS.drew, Nat.le_add_right _ _, grown_trans hg (grown_drewS _ _), hbox.drew, hR.drew, hBz, hst, fun _ => World.ownsRow.drew ho1, fun h => Bool.noConfusion h, hLn, ⟨World.ownsRow.drew hoO.1, hoO.2⟩, fun h => Bool.noConfusion h, fun h => Bool.noConfusion h, fun h => Bool.noConfusion h, fun h => Bool.noConfusion h, fun h => Bool.noConfusion h, fun h => Bool.noConfusion h, fun h => Bool.noConfusion h⟩
end Go.Proofs.YtkcjigelenofhaaGreatDoor
