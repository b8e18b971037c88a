import Derived.Test.YtmjolkagkeonfaaDoorGM
import Derived.Test.YtmjolkagkeonfaaDoorDrawSt1
namespace Go.Proofs.YtmjolkagkeonfaaDoor
open Go.RowKit
set_option linter.unusedVariables false
theorem belowSetC {W w : World} (h : Below W.heap.size W w) {b : Nat} (hb : W.heap.size ≤ b) (k : Nat) (v : Value) : Below W.heap.size W (w.setCell ⟨b, k, none⟩ v) := h.grown (grown_setCellF w b k v) h.size (fun j e => by have := Option.some.inj e; omega)
def dj6o0 : Oper := ⟨some 34, .move (.tmp 5), 23, "l09_policy.go:353", #[], none⟩
def dj6o1 : Oper := ⟨some 35, .load 25 (.tmp 6), 25, "l09_policy.go:353", #[⟨2, .gcOnly .lateStores⟩], none⟩
def dj6o2 : Oper := ⟨some 2, .assign (.tmp 34), 23, "l09_policy.go:353", #[⟨0, .data⟩, ⟨0, .phase⟩, ⟨1, .textOnly .lateStores⟩], none⟩
def dj6o3 : Oper := ⟨none, .store 25 (.tmp 3) (.tmp 35), 0, "l09_policy.go:353", #[⟨1, .data⟩, ⟨2, .chain⟩, ⟨0, .phase⟩, ⟨1, .phase⟩, ⟨2, .phase⟩], none⟩
def dj6O : Array Oper := #[dj6o0, dj6o1, dj6o2, dj6o3]
structure dj6P where
  (W0 : World)
  (XA XB BB : Nat)
  (vL : Value)
  (qa qb qc qd : ByteArray)
  (tA : Int)
  (s0 s1 s2 s4 s7 s8 s9 s10 s11 s12 s13 s14 s15 s16 s17 s18 s19 s20 s21 s22 s23 s24 s25 s26 s27 s28 s29 s30 s31 s32 s33 s34 s35 : Value)
def dj6T (P : dj6P) (zz : Nat) (b0 b1 b2 b3 : Bool) : Array Value := #[P.s0, P.s1, sel b2 (P.vL) (P.s2), .pointer (some ⟨P.XB, 0, none⟩), P.s4, P.vL, .pointer (some ⟨P.XA, 0, none⟩), P.s7, P.s8, P.s9, P.s10, P.s11, P.s12, P.s13, P.s14, P.s15, P.s16, P.s17, P.s18, P.s19, P.s20, P.s21, P.s22, P.s23, P.s24, P.s25, P.s26, P.s27, P.s28, P.s29, P.s30, P.s31, P.s32, P.s33, sel b0 (P.vL) (P.s34), sel b1 (.agg #[.string P.qa, .string P.qb, .string P.qc, .string P.qd, .int .i64 P.tA]) (P.s35)]
def dj6F (P : dj6P) (zz : Nat) (b0 b1 b2 b3 : Bool) (w : World) : Prop := (RowAt w P.XA 25 #[.string P.qa, .string P.qb, .string P.qc, .string P.qd, .int .i64 P.tA]) ∧ (RowAt w P.XB 25 (cond b3 #[.string P.qa, .string P.qb, .string P.qc, .string P.qd, .int .i64 P.tA] #[.string ⟨#[]⟩, .string ⟨#[]⟩, .string ⟨#[]⟩, .string ⟨#[]⟩, .int .i64 0])) ∧ (StDR w P.BB P.vL) ∧ (Below P.W0.heap.size P.W0 w) ∧ (P.W0.heap.size ≤ P.XB ∧ P.XB < P.XA ∧ P.XB < P.BB)
def dj6I (P : dj6P) (l : Array Bool) (f : Act) (w : World) : Prop :=
  ∃ (b0 b1 b2 b3 : Bool) (zz : Nat), l = #[b0, b1, b2, b3] ∧ f = { tmps := dj6T P zz b0 b1 b2 b3, defers := [] } ∧ dj6F P zz b0 b1 b2 b3 w
theorem dj6M {P : dj6P} {b0 b1 b2 b3 : Bool} (zz : Nat) {l : Array Bool} {f : Act} {w : World} (hl : l = #[b0, b1, b2, b3]) (hf : f = { tmps := dj6T P zz b0 b1 b2 b3, defers := [] }) (h : dj6F P zz b0 b1 b2 b3 w) : dj6I P l f w := ⟨b0, b1, b2, b3, zz, hl, hf, h⟩
set_option maxRecDepth 20000 in
set_option maxHeartbeats 20000000 in
theorem dj6_step {Q : Exit → Act → World → Prop} (P : dj6P) (l : Array Bool) (f : Act) (w : World) (hC : Closed dj6O l) (hI : dj6I P l f w) (i : Nat) (h0 : l.getD i true = false) (o : Oper) (ho : dj6O[i]? = some o) (h1 : ∀ e ∈ o.after, Region.binds .any e = true → l.getD e.on false = true) : wpOp Tryd.prog dj6O Q i (dj6I P (l.setIfInBounds i true)) f w := by
  obtain ⟨b0, b1, b2, b3, zz, rfl, rfl, hF⟩ := hI
  have hi : i < 4 := by
    rcases Nat.lt_or_ge i 4 with h | h
    · exact h
    · rw [show dj6O[i]? = none from Array.getElem?_eq_none h] at ho; cases ho
  rcases (by omega : i = 0 ∨ i = 1 ∨ i = 2 ∨ i = 3) with rfl | rfl | rfl | rfl
  · obtain rfl : dj6o0 = o := Option.some.inj ho
    obtain rfl : b0 = false := h0
    have hn := wayN_all hC (i := 0) rfl [(2, 0), (3, 0)] [] nk rfl; repeat (obtain ⟨rfl, hn⟩ := hn)
    obtain ⟨hA, hB, hD, hb, hk⟩ := hF
    refine wpOp_step (o := dj6o0) rfl (fun K hK => ?_)
    replace hK := hid hK
    simp only [dj6o0, dj6T, sel_f]
    go_simp
    exact hK.out _ _ (dj6M zz rfl rfl ⟨hA, hB, hD, hb, hk⟩)
  · obtain rfl : dj6o1 = o := Option.some.inj ho
    obtain rfl : b1 = false := h0
    have hn := wayN_all hC (i := 1) rfl [(3, 1)] [] nk rfl; repeat (obtain ⟨rfl, hn⟩ := hn)
    obtain ⟨hA, hB, hD, hb, hk⟩ := hF
    have q0 := hA.cell 0
    have q1 := hA.cell 1
    have q2 := hA.cell 2
    have q3 := hA.cell 3
    have q4 := hA.cell 4
    refine wpOp_step (o := dj6o1) rfl (fun K hK => ?_)
    replace hK := hid hK
    simp only [dj6o1, dj6T, sel_f]
    go_simp
    exact hK.out _ _ (dj6M zz rfl rfl ⟨hA, hB, hD, hb, hk⟩)
  · obtain rfl : dj6o2 = o := Option.some.inj ho
    obtain rfl : b2 = false := h0
    have hn := wayP_all (o := dj6o2) hC h1 [(0, none)] [] nk rfl; repeat (obtain ⟨rfl, hn⟩ := hn)
    have hn := wayN_all hC (i := 2) rfl [(3, 2)] [] nk rfl; repeat (obtain ⟨rfl, hn⟩ := hn)
    obtain ⟨hA, hB, hD, hb, hk⟩ := hF
    refine wpOp_step (o := dj6o2) rfl (fun K hK => ?_)
    replace hK := hid hK
    simp only [dj6o2, dj6T, sel_t, sel_f]
    go_simp
    exact hK.out _ _ (dj6M zz rfl rfl ⟨hA, hB, hD, hb, hk⟩)
  · obtain rfl : dj6o3 = o := Option.some.inj ho
    obtain rfl : b3 = false := h0
    have hn := wayP_all (o := dj6o3) hC h1 [(2, none), (1, none), (0, none)] [] nk rfl; repeat (obtain ⟨rfl, hn⟩ := hn)
    obtain ⟨hA, hB, hD, hb, hk⟩ := hF
    have hz : RowAt w P.XB 25 #[.string ⟨#[]⟩, .string ⟨#[]⟩, .string ⟨#[]⟩, .string ⟨#[]⟩, .int .i64 0] := hB
    have q0 := hz.cell 0
    have q1 := hz.cell 1
    have q2 := hz.cell 2
    have q3 := hz.cell 3
    have q4 := hz.cell 4
    have f0 := hz.free 0
    have f1 := hz.free 1
    have f2 := hz.free 2
    have f3 := hz.free 3
    have f4 := hz.free 4
    refine wpOp_step (o := dj6o3) rfl (fun K hK => ?_)
    replace hK := hid hK
    simp only [dj6o3, dj6T, sel_t]
    go_simp
    exact hK.out _ _ (dj6M zz rfl rfl ⟨(((((hA.other ⟨P.XB, 0, none⟩ _ (by simp; omega)).other ⟨P.XB, 1, none⟩ _ (by simp; omega)).other ⟨P.XB, 2, none⟩ _ (by simp; omega)).other ⟨P.XB, 3, none⟩ _ (by simp; omega)).other ⟨P.XB, 4, none⟩ _ (by simp; omega)), (((((hz.set 0 _).set 1 _).set 2 _).set 3 _).set 4 _), (((((hD.grow (grown_setCellF _ P.XB 0 _) (fun g e => by have e2 := Option.some.inj e; omega)).grow (grown_setCellF _ P.XB 1 _) (fun g e => by have e2 := Option.some.inj e; omega)).grow (grown_setCellF _ P.XB 2 _) (fun g e => by have e2 := Option.some.inj e; omega)).grow (grown_setCellF _ P.XB 3 _) (fun g e => by have e2 := Option.some.inj e; omega)).grow (grown_setCellF _ P.XB 4 _) (fun g e => by have e2 := Option.some.inj e; omega)), (belowSetC (belowSetC (belowSetC (belowSetC (belowSetC hb (by omega) 0 _) (by omega) 1 _) (by omega) 2 _) (by omega) 3 _) (by omega) 4 _), hk⟩)
set_option maxRecDepth 20000 in
set_option maxHeartbeats 4000000 in
theorem dj6_wp {Q : Exit → Act → World → Prop} {rid : Nat} (W0 : World) (XA XB BB : Nat) (vL : Value) (qa qb qc qd : ByteArray) (tA : Int) {s0 s1 s2 s4 s7 s8 s9 s10 s11 s12 s13 s14 s15 s16 s17 s18 s19 s20 s21 s22 s23 s24 s25 s26 s27 s28 s29 s30 s31 s32 s33 s34 s35 : Value} (w : World) (hA : RowAt w XA 25 #[.string qa, .string qb, .string qc, .string qd, .int .i64 tA]) (hB : RowAt w XB 25 #[.string ⟨#[]⟩, .string ⟨#[]⟩, .string ⟨#[]⟩, .string ⟨#[]⟩, .int .i64 0]) (hD : StDR w BB vL) (hb : Below W0.heap.size W0 w) (hk : W0.heap.size ≤ XB ∧ XB < XA ∧ XB < BB)
    (fin : ∀ (zz : Nat) (w' : World), (RowAt w' XA 25 #[.string qa, .string qb, .string qc, .string qd, .int .i64 tA]) → (RowAt w' XB 25 #[.string qa, .string qb, .string qc, .string qd, .int .i64 tA]) → (StDR w' BB vL) → (Below W0.heap.size W0 w') → (W0.heap.size ≤ XB ∧ XB < XA ∧ XB < BB) → Q .normal { tmps := #[s0, s1, vL, .pointer (some ⟨XB, 0, none⟩), s4, vL, .pointer (some ⟨XA, 0, none⟩), s7, s8, s9, s10, s11, s12, s13, s14, s15, s16, s17, s18, s19, s20, s21, s22, s23, s24, s25, s26, s27, s28, s29, s30, s31, s32, s33, vL, .agg #[.string qa, .string qb, .string qc, .string qd, .int .i64 tA]], defers := [] } w') :
    (Code.region rid dj6O true).wp Tryd.prog Q { tmps := #[s0, s1, s2, .pointer (some ⟨XB, 0, none⟩), s4, vL, .pointer (some ⟨XA, 0, none⟩), s7, s8, s9, s10, s11, s12, s13, s14, s15, s16, s17, s18, s19, s20, s21, s22, s23, s24, s25, s26, s27, s28, s29, s30, s31, s32, s33, s34, s35], defers := [] } w := by
  refine wp_region_invG (ops := dj6O) (dj6I ⟨W0, XA, XB, BB, vL, qa, qb, qc, qd, tA, s0, s1, s2, s4, s7, s8, s9, s10, s11, s12, s13, s14, s15, s16, s17, s18, s19, s20, s21, s22, s23, s24, s25, s26, s27, s28, s29, s30, s31, s32, s33, s34, s35⟩) (by kernel_rfl) (by kernel_rfl) (fun l f v hI => ?_) (fun l f v hC hI i h0 o ho h1 => dj6_step ⟨W0, XA, XB, BB, vL, qa, qb, qc, qd, tA, s0, s1, s2, s4, s7, s8, s9, s10, s11, s12, s13, s14, s15, s16, s17, s18, s19, s20, s21, s22, s23, s24, s25, s26, s27, s28, s29, s30, s31, s32, s33, s34, s35⟩ l f v hC hI i h0 o ho h1) (fun l f v hI hall => ?_) ?_
  · obtain ⟨_, _, _, _, _, rfl, _⟩ := hI; rfl
  · obtain ⟨b0, b1, b2, b3, zz, rfl, rfl, hA, hB, hD, hb, hk⟩ := hI
    have hn := allT hall [0, 1, 2, 3] rfl; repeat (obtain ⟨rfl, hn⟩ := hn)
    exact fin zz v hA hB hD hb hk
  · exact ⟨false, false, false, false, 0, rfl, rfl, hA.drew, hB.drew, hD.grow (grown_drewS _ none) (by intro g e; cases e), hb.drew, hk⟩
end Go.Proofs.YtmjolkagkeonfaaDoor
