import Derived.Test.YtkcjigelenofhaaGreatDoorD2
import Derived.Test.YtkcjigelenofhaaGreatDoorG4
import Derived.Test.YtkcjigelenofhaaGreatDoorG8
namespace Go.Proofs.YtkcjigelenofhaaGreatDoor
open Go.RowKit
set_option linter.unusedVariables false
theorem akTab (k : Nat) (hk : k < 3) : ∃ t : ByteArray, (#[.string ⟨#[97, 110, 110]⟩, .string ⟨#[98, 111, 98]⟩, .string ⟨#[107, 49]⟩] : Array Value)[k]? = some (.string t) ∧ t.size ≤ 3 := by
 rcases (by omega : k = 0 ∨ k = 1 ∨ k = 2) with rfl | rfl | rfl
 all_goals exact ⟨_, rfl, by decide⟩
def ak1o0 : Oper := ⟨some 3, .buildSlice 28 3 #[(0, .const (.string { data := #[97, 110, 110] })), (1, .const (.string { data := #[98, 111, 98] })), (2, .const (.string { data := #[107, 49] }))], 28, "l10_request.go:451", #[], none⟩
def ak1o1 : Oper := ⟨some 4, .move (.tmp 0), 61, "l10_request.go:451", #[], none⟩
def ak1o2 : Oper := ⟨some 5, .call { callee := .value (.func 36), args := #[.tmp 4, .const (.int .i64 3)], argTypes := #[61, 2] }, 2, "l10_request.go:451", #[⟨1, .data⟩], none⟩
def ak1o3 : Oper := ⟨some 6, .indexAddr 28 (.tmp 3) (.tmp 5), 0, "l10_request.go:451", #[⟨0, .data⟩, ⟨2, .data⟩], none⟩
def ak1o4 : Oper := ⟨some 7, .load 9 (.tmp 6), 9, "l10_request.go:451", #[⟨3, .data⟩], none⟩
def ak1o5 : Oper := ⟨some 8, .move (.tmp 0), 61, "l10_request.go:451", #[], none⟩
def ak1o6 : Oper := ⟨some 9, .call { callee := .value (.func 68), args := #[.tmp 8], argTypes := #[61] }, 9, "l10_request.go:451", #[⟨5, .data⟩, ⟨2, .chain⟩], none⟩
def ak1o7 : Oper := ⟨some 10, .build 27 #[(0, .tmp 7), (1, .tmp 9)], 27, "l10_request.go:451", #[⟨4, .data⟩, ⟨6, .data⟩], none⟩
def ak1o8 : Oper := ⟨none, .store 27 (.tmp 2) (.tmp 10), 0, "l10_request.go:451", #[⟨7, .data⟩, ⟨6, .chain⟩, ⟨0, .phase⟩, ⟨1, .phase⟩, ⟨2, .phase⟩, ⟨3, .phase⟩, ⟨4, .phase⟩, ⟨5, .phase⟩, ⟨6, .phase⟩, ⟨7, .phase⟩], none⟩
def ak1O : Array Oper := #[ak1o0, ak1o1, ak1o2, ak1o3, ak1o4, ak1o5, ak1o6, ak1o7, ak1o8]
structure ak1P where
 (W0 w0 : World)
 (c : Nat)
 (a : Option Addr)
 (len cap p XB : Nat)
 (s1 s3 s4 s5 s6 s7 s8 s9 s10 : Value)
def ak1T (P : ak1P) (XT : Nat) (R : Nat) (x4 : ByteArray) (x6 : ByteArray) (pp : Nat) (b0 b1 b2 b3 b4 b5 b6 b7 b8 : Bool) : Array Value := #[.pointer (some ⟨P.c, 0, none⟩), P.s1, .pointer (some ⟨P.XB, 0, none⟩), sel b0 (.slice (some ⟨XT, 0, none⟩) 3 3) (P.s3), sel b1 (.pointer (some ⟨P.c, 0, none⟩)) (P.s4), sel b2 (.int .i64 (R : Int)) (P.s5), sel b3 (.pointer (some ⟨XT, R, none⟩)) (P.s6), sel b4 (.string x4) (P.s7), sel b5 (.pointer (some ⟨P.c, 0, none⟩)) (P.s8), sel b6 (.string x6) (P.s9), sel b7 (.agg #[.string x4, .string x6]) (P.s10)]
def ak1F (P : ak1P) (XT : Nat) (R : Nat) (x4 : ByteArray) (x6 : ByteArray) (pp : Nat) (b0 b1 b2 b3 b4 b5 b6 b7 b8 : Bool) (w : World) : Prop := (Src P.W0 w P.c P.a P.len P.cap pp) ∧ (pp ≤ P.p + 10 * (b2.toNat + b6.toNat)) ∧ (P.w0.grownBy w (some P.c)) ∧ (RowAt w P.XB 27 (cond b8 #[.string x4, .string x6] #[.string ⟨#[]⟩, .string ⟨#[]⟩])) ∧ (P.c < P.XB ∧ P.w0.heap.size ≤ P.XB ∧ P.p ≤ 900000 ∧ P.c < P.w0.heap.size) ∧ (b0 = true → RowAt w XT 9 #[.string ⟨#[97, 110, 110]⟩, .string ⟨#[98, 111, 98]⟩, .string ⟨#[107, 49]⟩] ∧ P.c ≠ XT ∧ XT ≠ P.XB) ∧ (b2 = true → R < 3) ∧ (b4 = true → x4.size ≤ 3) ∧ (b6 = true → x6.size ≤ 6)
def ak1I (P : ak1P) (l : Array Bool) (f : Act) (w : World) : Prop :=
 ∃ (b0 b1 b2 b3 b4 b5 b6 b7 b8 : Bool) (XT : Nat) (R : Nat) (x4 : ByteArray) (x6 : ByteArray) (pp : Nat), l = #[b0, b1, b2, b3, b4, b5, b6, b7, b8] ∧ f = { tmps := ak1T P XT R x4 x6 pp b0 b1 b2 b3 b4 b5 b6 b7 b8, defers := [] } ∧ ak1F P XT R x4 x6 pp b0 b1 b2 b3 b4 b5 b6 b7 b8 w
theorem ak1M {P : ak1P} {b0 b1 b2 b3 b4 b5 b6 b7 b8 : Bool} (XT : Nat) (R : Nat) (x4 : ByteArray) (x6 : ByteArray) (pp : Nat) {l : Array Bool} {f : Act} {w : World} (hl : l = #[b0, b1, b2, b3, b4, b5, b6, b7, b8]) (hf : f = { tmps := ak1T P XT R x4 x6 pp b0 b1 b2 b3 b4 b5 b6 b7 b8, defers := [] }) (h : ak1F P XT R x4 x6 pp b0 b1 b2 b3 b4 b5 b6 b7 b8 w) : ak1I P l f w := ⟨b0, b1, b2, b3, b4, b5, b6, b7, b8, XT, R, x4, x6, pp, hl, hf, h⟩
set_option maxRecDepth 20000 in
set_option maxHeartbeats 20000000 in
theorem ak1_step {Q : Exit → Act → World → Prop} (P : ak1P) (l : Array Bool) (f : Act) (w : World) (hC : Closed ak1O l) (hI : ak1I P l f w) (i : Nat) (h0 : l.getD i true = false) (o : Oper) (ho : ak1O[i]? = some o) (h1 : ∀ e ∈ o.after, Region.binds .any e = true → l.getD e.on false = true) : wpOp Tryz.prog ak1O Q i (ak1I P (l.setIfInBounds i true)) f w := by
 obtain ⟨b0, b1, b2, b3, b4, b5, b6, b7, b8, XT, R, x4, x6, pp, rfl, rfl, hF⟩ := hI
 have hi : i < 9 := by
  rcases Nat.lt_or_ge i 9 with h | h
  · exact h
  · rw [show ak1O[i]? = none from Array.getElem?_eq_none h] at ho; cases ho
 rcases (by omega : i = 0 ∨ i = 1 ∨ i = 2 ∨ i = 3 ∨ i = 4 ∨ i = 5 ∨ i = 6 ∨ i = 7 ∨ i = 8) with rfl | rfl | rfl | rfl | rfl | rfl | rfl | rfl | rfl
 · obtain rfl : ak1o0 = o := Option.some.inj ho
   obtain rfl : b0 = false := h0
   have hn := wayN_all hC (i := 0) rfl [(3, 0), (4, 3), (7, 4), (8, 0)] [] nk rfl; repeat (obtain ⟨rfl, hn⟩ := hn)
   obtain ⟨hS, hp, hg, hbox, hst, hT, hR, hx4, hx6⟩ := hF
   refine wpOp_step (o := ak1o0) rfl (fun K hK => ?_)
   replace hK := hid hK
   simp only [ak1o0, ak1T, sel_f]
   go_simp
   exact hK.out _ _ (ak1M w.heap.size R x4 x6 pp rfl rfl ⟨hS.alloc _, hp, grown_al hg _, hbox.alloc _, hst, fun _ => ⟨RowAt.new w _ _, by have := hS.lt; omega, by have := hbox.lt; omega⟩, hR, fun h => Bool.noConfusion h, hx6⟩)
 · obtain rfl : ak1o1 = o := Option.some.inj ho
   obtain rfl : b1 = false := h0
   have hn := wayN_all hC (i := 1) rfl [(2, 1), (3, 2), (4, 3), (6, 2), (7, 4), (8, 1)] [] nk rfl; repeat (obtain ⟨rfl, hn⟩ := hn)
   obtain ⟨hS, hp, hg, hbox, hst, hT, hR, hx4, hx6⟩ := hF
   simp only [Bool.toNat_false] at hp
   refine wpOp_step (o := ak1o1) rfl (fun K hK => ?_)
   replace hK := hid hK
   simp only [ak1o1, ak1T, sel_f]
   go_simp
   exact hK.out _ _ (ak1M XT R x4 x6 pp rfl rfl ⟨hS, hp, hg, hbox, hst, hT, fun h => Bool.noConfusion h, fun h => Bool.noConfusion h, fun h => Bool.noConfusion h⟩)
 · obtain rfl : ak1o2 = o := Option.some.inj ho
   obtain rfl : b2 = false := h0
   have hn := wayP_all (o := ak1o2) hC h1 [(1, none)] [] nk rfl; repeat (obtain ⟨rfl, hn⟩ := hn)
   have hn := wayN_all hC (i := 2) rfl [(3, 2), (4, 3), (6, 2), (7, 4), (8, 2)] [] nk rfl; repeat (obtain ⟨rfl, hn⟩ := hn)
   obtain ⟨hS, hp, hg, hbox, hst, hT, hR, hx4, hx6⟩ := hF
   simp only [Bool.toNat_false] at hp
   have hpp : pp ≤ P.p + 20 := by have := hp;  omega
   refine wpOp_step (o := ak1o2) rfl (fun K hK => ?_)
   replace hK := hid hK
   simp only [ak1o2, ak1T, sel_t, sel_f]
   go_simp
   refine (n_all P.W0 _ P.c P.a P.len P.cap pp 3 hS (by omega) (by omega) (by omega)).mono ?_
   rintro e w2 ⟨⟨z9, rfl, hz0, hz1⟩, hs2, hg2⟩
   obtain ⟨R9, rfl⟩ := Int.eq_ofNat_of_zero_le hz0
   dsimp only
   exact hK.out _ _ (ak1M XT R9 x4 x6 ((pp + 1)) rfl rfl ⟨hs2, by show pp + 1 ≤ P.p + 10 * (1 + 0); omega, grown_trans hg hg2, rowF hbox hg2 hst.1, hst, fun h => ⟨rowF2 (hT h).1 hg2 (hT h).2.1, (hT h).2⟩, fun _ => by omega, fun h => Bool.noConfusion h, fun h => Bool.noConfusion h⟩)
 · obtain rfl : ak1o3 = o := Option.some.inj ho
   obtain rfl : b3 = false := h0
   have hn := wayP_all (o := ak1o3) hC h1 [(2, none), (0, none), (1, some 2)] [] nk rfl; repeat (obtain ⟨rfl, hn⟩ := hn)
   have hn := wayN_all hC (i := 3) rfl [(4, 3), (7, 4), (8, 3)] [] nk rfl; repeat (obtain ⟨rfl, hn⟩ := hn)
   obtain ⟨hS, hp, hg, hbox, hst, hT, hR, hx4, hx6⟩ := hF
   simp only [Bool.toNat_true] at hp
   have r := hR rfl
   have r0 : (R : Int) < 3 := by omega
   refine wpOp_step (o := ak1o3) rfl (fun K hK => ?_)
   replace hK := hid hK
   simp only [ak1o3, ak1T, sel_t, sel_f]
   go_simp
   exact hK.out _ _ (ak1M XT R x4 x6 pp rfl rfl ⟨hS, hp, hg, hbox, hst, hT, hR, fun h => Bool.noConfusion h, hx6⟩)
 · obtain rfl : ak1o4 = o := Option.some.inj ho
   obtain rfl : b4 = false := h0
   have hn := wayP_all (o := ak1o4) hC h1 [(3, none), (0, some 3), (2, some 3), (1, some 2)] [] nk rfl; repeat (obtain ⟨rfl, hn⟩ := hn)
   have hn := wayN_all hC (i := 4) rfl [(7, 4), (8, 4)] [] nk rfl; repeat (obtain ⟨rfl, hn⟩ := hn)
   obtain ⟨hS, hp, hg, hbox, hst, hT, hR, hx4, hx6⟩ := hF
   simp only [Bool.toNat_true] at hp
   obtain ⟨t, ht, hts⟩ := akTab R (hR rfl)
   have q := (hT rfl).1.cell R
   rw [ht] at q
   refine wpOp_step (o := ak1o4) rfl (fun K hK => ?_)
   replace hK := hid hK
   simp only [ak1o4, ak1T, sel_t, sel_f]
   go_simp
   exact hK.out _ _ (ak1M XT R t x6 pp rfl rfl ⟨hS, hp, hg, hbox, hst, hT, hR, fun _ => hts, hx6⟩)
 · obtain rfl : ak1o5 = o := Option.some.inj ho
   obtain rfl : b5 = false := h0
   have hn := wayN_all hC (i := 5) rfl [(6, 5), (7, 6), (8, 5)] [] nk rfl; repeat (obtain ⟨rfl, hn⟩ := hn)
   obtain ⟨hS, hp, hg, hbox, hst, hT, hR, hx4, hx6⟩ := hF
   simp only [Bool.toNat_false] at hp
   refine wpOp_step (o := ak1o5) rfl (fun K hK => ?_)
   replace hK := hid hK
   simp only [ak1o5, ak1T, sel_f]
   go_simp
   exact hK.out _ _ (ak1M XT R x4 x6 pp rfl rfl ⟨hS, hp, hg, hbox, hst, hT, hR, hx4, fun h => Bool.noConfusion h⟩)
 · obtain rfl : ak1o6 = o := Option.some.inj ho
   obtain rfl : b6 = false := h0
   have hn := wayP_all (o := ak1o6) hC h1 [(5, none), (2, none), (1, some 2)] [] nk rfl; repeat (obtain ⟨rfl, hn⟩ := hn)
   have hn := wayN_all hC (i := 6) rfl [(7, 6), (8, 6)] [] nk rfl; repeat (obtain ⟨rfl, hn⟩ := hn)
   obtain ⟨hS, hp, hg, hbox, hst, hT, hR, hx4, hx6⟩ := hF
   simp only [Bool.toNat_true, Bool.toNat_false] at hp
   have hpp : pp ≤ P.p + 20 := by have := hp;  omega
   refine wpOp_step (o := ak1o6) rfl (fun K hK => ?_)
   replace hK := hid hK
   simp only [ak1o6, ak1T, sel_t, sel_f]
   go_simp
   refine (word_all P.W0 _ P.c P.a P.len P.cap pp hS (by omega)).mono ?_
   rintro e w2 ⟨⟨t9, rfl, ht9⟩, ⟨p9, hs2, hp9⟩, hg2⟩
   dsimp only
   exact hK.out _ _ (ak1M XT R x4 t9 p9 rfl rfl ⟨hs2, by show p9 ≤ P.p + 10 * (1 + 1); omega, grown_trans hg hg2, rowF hbox hg2 hst.1, hst, fun h => ⟨rowF2 (hT h).1 hg2 (hT h).2.1, (hT h).2⟩, hR, hx4, fun _ => ht9⟩)
 · obtain rfl : ak1o7 = o := Option.some.inj ho
   obtain rfl : b7 = false := h0
   have hn := wayP_all (o := ak1o7) hC h1 [(6, none), (4, none), (2, some 6), (5, some 6), (3, some 4), (0, some 3), (1, some 2)] [] nk rfl; repeat (obtain ⟨rfl, hn⟩ := hn)
   have hn := wayN_all hC (i := 7) rfl [(8, 7)] [] nk rfl; repeat (obtain ⟨rfl, hn⟩ := hn)
   obtain ⟨hS, hp, hg, hbox, hst, hT, hR, hx4, hx6⟩ := hF
   simp only [Bool.toNat_true] at hp
   refine wpOp_step (o := ak1o7) rfl (fun K hK => ?_)
   replace hK := hid hK
   simp only [ak1o7, ak1T, sel_t, sel_f]
   go_simp
   exact hK.out _ _ (ak1M XT R x4 x6 pp rfl rfl ⟨hS, hp, hg, hbox, hst, hT, hR, hx4, hx6⟩)
 · obtain rfl : ak1o8 = o := Option.some.inj ho
   obtain rfl : b8 = false := h0
   have hn := wayP_all (o := ak1o8) hC h1 [(7, none), (6, none), (5, none), (4, none), (3, none), (2, none), (1, none), (0, none)] [] nk rfl; repeat (obtain ⟨rfl, hn⟩ := hn)
   obtain ⟨hS, hp, hg, hbox, hst, hT, hR, hx4, hx6⟩ := hF
   simp only [Bool.toNat_true] at hp
   have hz : RowAt w P.XB 27 #[.string ⟨#[]⟩, .string ⟨#[]⟩] := hbox
   have q0 := hz.cell 0
   have q1 := hz.cell 1
   have f0 := hz.free 0
   have f1 := hz.free 1
   refine wpOp_step (o := ak1o8) rfl (fun K hK => ?_)
   replace hK := hid hK
   simp only [ak1o8, ak1T, sel_t]
   go_simp
   exact hK.out _ _ (ak1M XT R x4 x6 pp rfl rfl ⟨(hS.set hst.1 0 _).set hst.1 1 _, hp, grown_far (grown_far hg hst.2.1 0 _) hst.2.1 1 _, (hz.set 0 _).set 1 _, hst, fun h => ⟨((hT h).1.other ⟨P.XB, 0, none⟩ _ (hT h).2.2).other ⟨P.XB, 1, none⟩ _ (hT h).2.2, (hT h).2⟩, hR, hx4, hx6⟩)
set_option maxRecDepth 20000 in
set_option maxHeartbeats 4000000 in
theorem ak1_wp {Q : Exit → Act → World → Prop} {rid : Nat} (pp : Nat) (W0 w0 : World) (c : Nat) (a : Option Addr) (len cap p XB : Nat) {s1 s3 s4 s5 s6 s7 s8 s9 s10 : Value} (w : World) (hS : Src W0 w c a len cap pp) (hp : pp ≤ p) (hg : w0.grownBy w (some c)) (hbox : RowAt w XB 27 #[.string ⟨#[]⟩, .string ⟨#[]⟩]) (hst : c < XB ∧ w0.heap.size ≤ XB ∧ p ≤ 900000 ∧ c < w0.heap.size)
 (fin : ∀ (XT : Nat) (R : Nat) (x4 : ByteArray) (x6 : ByteArray) (pp : Nat) (w' : World), (Src W0 w' c a len cap pp) → (pp ≤ p + 10 * (1 + 1)) → (w0.grownBy w' (some c)) → (RowAt w' XB 27 #[.string x4, .string x6]) → (c < XB ∧ w0.heap.size ≤ XB ∧ p ≤ 900000 ∧ c < w0.heap.size) → (RowAt w' XT 9 #[.string ⟨#[97, 110, 110]⟩, .string ⟨#[98, 111, 98]⟩, .string ⟨#[107, 49]⟩] ∧ c ≠ XT ∧ XT ≠ XB) → (R < 3) → (x4.size ≤ 3) → (x6.size ≤ 6) → Q .normal { tmps := #[.pointer (some ⟨c, 0, none⟩), s1, .pointer (some ⟨XB, 0, none⟩), .slice (some ⟨XT, 0, none⟩) 3 3, .pointer (some ⟨c, 0, none⟩), .int .i64 (R : Int), .pointer (some ⟨XT, R, none⟩), .string x4, .pointer (some ⟨c, 0, none⟩), .string x6, .agg #[.string x4, .string x6]], defers := [] } w') :
 (Code.region rid ak1O true).wp Tryz.prog Q { tmps := #[.pointer (some ⟨c, 0, none⟩), s1, .pointer (some ⟨XB, 0, none⟩), s3, s4, s5, s6, s7, s8, s9, s10], defers := [] } w := by
 refine wp_region_inv (ops := ak1O) (ak1I ⟨W0, w0, c, a, len, cap, p, XB, s1, s3, s4, s5, s6, s7, s8, s9, s10⟩) (by kernel_rfl) (by kernel_rfl) (fun l f v hI => ?_) (fun l f v hC hI i h0 o ho h1 => ak1_step ⟨W0, w0, c, a, len, cap, p, XB, s1, s3, s4, s5, s6, s7, s8, s9, s10⟩ l f v hC hI i h0 o ho h1) (fun l f v hI hall => ?_) ?_
 · obtain ⟨_, _, _, _, _, _, _, _, _, _, _, _, _, _, rfl, _⟩ := hI; rfl
 · obtain ⟨b0, b1, b2, b3, b4, b5, b6, b7, b8, XT, R, x4, x6, pp, rfl, rfl, hS, hp, hg, hbox, hst, hT, hR, hx4, hx6⟩ := hI
   have hn := allT hall [0, 1, 2, 3, 4, 5, 6, 7, 8] rfl; repeat (obtain ⟨rfl, hn⟩ := hn)
   exact fin XT R x4 x6 pp v hS hp hg hbox hst (hT rfl) (hR rfl) (hx4 rfl) (hx6 rfl)
 · exact ⟨false, false, false, false, false, false, false, false, false, 0, 0, ⟨#[]⟩, ⟨#[]⟩, pp, rfl, rfl, hS.drew, by show pp ≤ p + 10 * (0 + 0); omega, grown_trans hg (grown_drewS _ _), hbox.drew, hst, fun h => Bool.noConfusion h, fun h => Bool.noConfusion h, fun h => Bool.noConfusion h, fun h => Bool.noConfusion h⟩
set_option maxRecDepth 20000 in
set_option maxHeartbeats 2000000 in
theorem accessK_all (W0 w : World) (c : Nat) (a : Option Addr) (len cap p : Nat) (h : Src W0 w c a len cap p) (hp : p ≤ 900000) :
 Calls Tryz.prog 35 #[.pointer (some ⟨c, 0, none⟩)] w fun e w' => (∃ id sec : ByteArray, e = .returned (.agg #[.string id, .string sec]) ∧ id.size ≤ 3 ∧ sec.size ≤ 6) ∧ (∃ p', Src W0 w' c a len cap p' ∧ p' ≤ p + 20) ∧ w.grownBy w' (some c) := by
 have hcl := h.lt
 obtain ⟨W1, hW1⟩ : ∃ W, W = w.alloc (.cells #[.string ⟨#[]⟩, .string ⟨#[]⟩] 27) := ⟨_, rfl⟩
 have S1 : Hid (Src W0 W1 c a len cap p) := by rw [hW1]; exact h.alloc _
 have R1 : Hid (RowAt W1 w.heap.size 27 #[.string ⟨#[]⟩, .string ⟨#[]⟩]) := by rw [hW1]; exact RowAt.new _ _ _
 have G1 : Hid (w.grownBy W1 (some c)) := by rw [hW1]; exact World.grownBy_alloc w _ _
 have HW1 := hid hW1
 clear h hW1
 go_enter Tryz.func35, Tryz.ntmps35
 go_upto_region 1 with fail
 rw [← HW1.out]
 refine ak1_wp p W0 w c a len cap p w.heap.size W1 S1.out (Nat.le_refl _) G1.out R1.out ⟨hcl, Nat.le_refl _, hp, hcl⟩ ?_
 intro XT R x4 x6 pp w' hS' hp' hg' hbox' _ _ _ h4 h6
 have Sx := hid hS'
 have Gx := hid hg'
 have Bx := hid hbox'
 clear hS' hg' hbox' S1 R1 G1 HW1
 go_wp2
 refine bodyPost_ret (v := .agg #[.string x4, .string x6]) ?_ rfl ⟨⟨x4, x6, rfl, h4, h6⟩, ⟨pp, Sx.out, by omega⟩, Gx.out⟩
 exact results_cell_row Tryz.results35 _ _ w.heap.size _ _ _ _ rfl Bx.out Tryz.underlying27 rfl (by kernel_rfl)
theorem apartS {w : World} {base B : Nat} {u v : Value} {H : List Hp} {xs : List ByteArray} (_ho : OwnHp w B u H) (hb : ∀ g, u.ownBlock = some g → g < base) (hO : OwnStrs w base v xs) : u.ownBlock = none ∨ u.ownBlock ≠ v.ownBlock := by
 cases hu : u.ownBlock with
 | none => exact .inl rfl
 | some g => exact .inr fun e => by have := hb g hu; have := (World.ownsRow.lt hO g e.symm).1; omega
theorem OwnStrs.keptC {w w' : World} {B c : Nat} {v : Value} {xs : List ByteArray} (h : OwnStrs w B v xs) (hg : w.grownBy w' (some c)) (hc : c < B) : OwnStrs w' B v xs := World.ownsRow.kept h hg (by
 cases hv : v.ownBlock with
 | none => exact .inl rfl
 | some g => exact .inr fun e => by have := (World.ownsRow.lt h g hv).1; cases e; omega)
theorem mem_appS {xs : List ByteArray} {y : ByteArray} {B : Nat} (h : ∀ x ∈ xs, x.size ≤ B) (hy : y.size ≤ B) : ∀ x ∈ xs ++ [y], x.size ≤ B := fun x hx => by
 rcases List.mem_append.1 hx with q | q
 · exact h x q
 · rw [List.mem_singleton.1 q]; exact hy
set_option maxRecDepth 20000 in
set_option maxHeartbeats 4000000 in
theorem signed_all (W0 w : World) (c : Nat) (a : Option Addr) (len cap p : Nat) (h : Src W0 w c a len cap p) (hp : p ≤ 900000) (mt pt bd : ByteArray) (a1 : Option Addr) (n1 c1 : Nat) (a2 : Option Addr) (c2 BH : Nat) (H : List Hp) (hcB : c < BH) (hH : OwnHp w BH (.slice a2 H.length c2) H) (hHs : ∀ x ∈ H, x.nm.size ≤ 2000) :
 Calls Tryz.prog 37 #[.pointer (some ⟨c, 0, none⟩), .agg #[.string mt, .string pt, .slice a1 n1 c1, .slice a2 H.length c2, .string bd]] w fun e w' => (∃ v xs, e = .returned v ∧ OwnStrs w' (w.heap.size + 1) v xs ∧ xs.length ≤ 5 ∧ ∀ x ∈ xs, x.size ≤ 2000) ∧ (∃ p', Src W0 w' c a len cap p' ∧ p' ≤ p + 10) ∧ w.grownBy w' (some c) := by
 have INF := Tryz.infoS'
 have hcl := h.lt
 have hw0 := h.2.2.2.2
 have HBL : Hid (∀ g, (Value.slice a2 H.length c2).ownBlock = some g → g < w.heap.size) := fun g hg => (World.ownsRow.lt hH g hg).2
 have HBL1 : Hid (∀ g, (Value.slice a2 H.length c2).ownBlock = some g → g < w.heap.size + 1) := fun g hg => by have := HBL.out g hg; omega
 obtain ⟨W1, hW1⟩ : ∃ W, W = w.alloc (.cells #[.string mt, .string pt, .slice a1 n1 c1, .slice a2 H.length c2, .string bd] 25) := ⟨_, rfl⟩
 have z1 : W1.heap.size = w.heap.size + 1 := by rw [hW1]; simp
 have S1 : Hid (Src W0 (W1.alloc (.cells #[] 9)) c a len cap p) := by rw [hW1]; exact (h.alloc _).alloc _
 have G1 : Hid (w.grownBy (W1.alloc (.cells #[] 9)) (some c)) := by rw [hW1]; exact grown_al (World.grownBy_alloc w _ _) _
 have X1 : Hid (RowAt (W1.alloc (.cells #[] 9)) w.heap.size 25 #[.string mt, .string pt, .slice a1 n1 c1, .slice a2 H.length c2, .string bd]) := by rw [hW1]; exact (RowAt.new _ _ _).alloc _
 have H1 : Hid (OwnHp (W1.alloc (.cells #[] 9)) BH (.slice a2 H.length c2) H) := by rw [hW1]; exact World.ownsRow.alloc (World.ownsRow.alloc hH _) _
 have O1 : Hid (OwnStrs (W1.alloc (.cells #[] 9)) (w.heap.size + 1) (.slice (some ⟨w.heap.size + 1, 0, none⟩) 0 0) []) := by rw [← z1]; exact World.ownsRow_made W1 #[] 0 (Nat.le_refl _) (by decide) rfl
 have HHs := hid hHs
 have HW1 := hid hW1
 clear h hH hW1 hHs
 go_enter Tryz.func37, Tryz.ntmps37
 go_upto_region 1 with fail
 rw [← HW1.out]
 go_wp2_with fail
 go_loopw [5, 6] (fun v q wr => ∃ (xs : List ByteArray) (k pp : Nat), k ≤ 4 ∧ k ≤ H.length ∧ q = .int .i64 (k : Int) ∧ xs.length ≤ k ∧ (∀ x ∈ xs, x.size ≤ 2000) ∧ pp ≤ p + k ∧ OwnStrs wr (w.heap.size + 1) v xs ∧ Src W0 wr c a len cap pp ∧ w.grownBy wr (some c) ∧ RowAt wr w.heap.size 25 #[.string mt, .string pt, .slice a1 n1 c1, .slice a2 H.length c2, .string bd] ∧ OwnHp wr BH (.slice a2 H.length c2) H) (fun _ q _ => 4 - (intOf q).toNat)
 case atStart => exact ⟨[], 0, p, by omega, by omega, rfl, Nat.le_refl _, (fun x hx => by cases hx), by omega, O1.out, S1.out, G1.out, X1.out, H1.out⟩
 case round =>
  obtain ⟨xs, k, pp, hk4, hkH, rfl, hxl, hxs, hpp, hO, hS, hG, hX, hOH⟩ := hrel
  have O := hid hO
  have S := hid hS
  have G := hid hG
  have X := hid hX
  have OH := hid hOH
  have XS := hid hxs
  have x3 := hX.cell 3
  clear hO hS hG hX hOH hxs O1 S1 G1 X1 H1
  by_cases hlt : k < H.length ∧ k < 4
  · have d1 : decide ((k : Int) < (H.length : Int)) = true := decide_eq_true (by omega)
    have d2 : decide ((k : Int) < 4) = true := decide_eq_true (by omega)
    go_wp2_with fail
    refine (one_all W0 _ c a len cap pp 2 S.out (by omega) (by omega) (by omega)).mono ?_
    rintro e w2 ⟨⟨b, rfl⟩, hs2, hg2⟩
    have X2 := rowF X.out hg2 hcl
    have OH2 := OwnHp.keptC OH.out hg2 hcB
    have O2 := hid (OwnStrs.keptC O.out hg2 (by omega))
    have S2 := hid hs2
    have G2 := hid (grown_trans G.out hg2)
    have Z2 : w.heap.size ≤ w2.heap.size := G2.out.size
    have hX2 := X2.lt
    clear hs2 hg2 x3
    cases b with
    | true =>
     obtain ⟨g, cp, e1, _, hgl, _, hc⟩ := OwnHp.shape OH2 (by omega)
     have ea : a2 = some ⟨g, 0, none⟩ := by injection e1
     have yy := (hc k hlt.1).1
     have yz : w2.cell? ⟨g, 0 + k * 2, none⟩ = some (.string (hAt H k).nm) := by rw [Nat.zero_add]; exact yy
     have y3 := X2.cell 3
     have k0 : (0 : Int) ≤ (k : Int) := by omega
     have k1 : (k : Int) < (H.length : Int) := by omega
     have NS : (hAt H k).nm.size ≤ 2000 := HHs.out _ (hAt_mem hlt.1)
     obtain ⟨NM, hNM⟩ : ∃ n, n = (hAt H k).nm := ⟨_, rfl⟩
     rw [← hNM] at yy yz NS
     have X2h := hid X2
     have OH2h := hid OH2
     clear hc e1 hNM X2 OH2
     subst ea
     go_wp2_with (first | (at_builtin; refine append_str2 (w.heap.size + 1) w2 rfl (.tmp 21) (.tmp 28) 28 rfl Tryz.underlying28 INF _ xs NM rfl O2.out (by omega) rfl (by omega) ?_) | go_in)
     intro v' w' hO' hg'
     have S3 := hid (S2.out.far hg' (OwnStrs.ne O2.out (by omega)) (fun g hg => by have := (World.ownsRow.lt O2.out g hg).1; omega))
     have G3 := hid (grown_own G2.out hg' (fun g hg => (World.ownsRow.lt O2.out g hg).1) (by omega))
     have X3 := hid (row_grown X2h.out hg' (fun e => OwnStrs.ne O2.out (show w.heap.size < w.heap.size + 1 by omega) e))
     have OH3 := hid (World.ownsRow.kept OH2h.out hg' (apartS OH2h.out HBL1.out O2.out))
     have O3 := hid hO'
     clear hO' hg' yy yz y3
     go_wp2
     go_roundw
     case rel => exact ⟨_, k + 1, pp + 1, by omega, by omega, by go_num, by rw [List.length_append]; simp; omega, mem_appS XS.out NS, by omega, O3.out, S3.out, G3.out, X3.out, OH3.out⟩
     case measure => simp [intOf]; omega
    | false =>
     have X2h := hid X2
     have OH2h := hid OH2
     clear X2 OH2
     go_wp2
     go_roundw
     case rel => exact ⟨xs, k + 1, pp + 1, by omega, by omega, by go_num, by omega, XS.out, by omega, O2.out, S2.out, G2.out, X2h.out, OH2h.out⟩
     case measure => simp [intOf]; omega
  · have FIN : Hid (∀ W (hw : W = wr), True) := fun _ _ => trivial
    have key : decide ((k : Int) < (H.length : Int)) = false ∨ (decide ((k : Int) < (H.length : Int)) = true ∧ decide ((k : Int) < 4) = false) := by
     by_cases q : k < H.length
     · exact .inr ⟨decide_eq_true (by omega), decide_eq_false (by omega)⟩
     · exact .inl (decide_eq_false (by omega))
    clear FIN
    rcases key with d1 | ⟨d1, d2⟩
    all_goals go_wp2_with fail
    all_goals
     refine (one_all W0 _ c a len cap pp 12 S.out (by omega) (by omega) (by omega)).mono ?_
     rintro e w2 ⟨⟨b, rfl⟩, hs2, hg2⟩
     have O2 := hid (OwnStrs.keptC O.out hg2 (by omega))
     have S2 := hid hs2
     have G2 := hid (grown_trans G.out hg2)
     have hX2 : w.heap.size < w2.heap.size := (rowF X.out hg2 hcl).lt
     clear hs2 hg2 x3
     cases b with
     | true =>
      go_wp2_with (first | (at_builtin; refine append_str2 (w.heap.size + 1) w2 rfl (.tmp 32) (.tmp 33) 28 rfl Tryz.underlying28 INF _ xs ⟨#[110, 111, 110, 101]⟩ rfl O2.out (by omega) rfl (by omega) ?_) | go_in)
      intro v' w' hO' hg'
      have S3 := hid (S2.out.far hg' (OwnStrs.ne O2.out (by omega)) (fun g hg => by have := (World.ownsRow.lt O2.out g hg).1; omega))
      have G3 := hid (grown_own G2.out hg' (fun g hg => (World.ownsRow.lt O2.out g hg).1) (by omega))
      have O3 := hid hO'
      clear hO' hg'
      go_wp2
      go_ret
      exact ⟨⟨_, _, rfl, O3.out, by rw [List.length_append]; simp; omega, mem_appS XS.out (by decide)⟩, ⟨_, S3.out, by omega⟩, G3.out⟩
     | false =>
      go_wp2
      go_ret
      exact ⟨⟨_, _, rfl, O2.out, by omega, XS.out⟩, ⟨_, S2.out, by omega⟩, G2.out⟩
end Go.Proofs.YtkcjigelenofhaaGreatDoor
