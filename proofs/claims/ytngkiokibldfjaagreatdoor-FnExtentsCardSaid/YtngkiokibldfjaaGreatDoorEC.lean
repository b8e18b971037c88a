import Derived.Test.YtngkiokibldfjaaGreatDoorEE
import Derived.Test.YtngkiokibldfjaaGreatDoorPC
import Derived.Deep.Cut
namespace Go.Proofs.YtngkiokibldfjaaGreatDoor
open Go.RowKit
set_option linter.unusedVariables false
/-! The draws of keys and of records of an extent: of the texts only bounds are said. -/
def exW : Array Value := #[.string ⟨#[97]⟩, .string ⟨#[98]⟩, .string ⟨#[99]⟩, .string ⟨#[100, 47, 49]⟩, .string ⟨#[231]⟩]
theorem exW_at {w : World} {g : Nat} (h : RowAt w g 9 exW) (k : Nat) (hk : k < 5) : ∃ s : ByteArray, w.cell? ⟨g, k, none⟩ = some (.string s) ∧ s.size ≤ 3 := by
  match k, hk with
  | 0, _ => exact ⟨_, h.cell 0, by decide⟩
  | 1, _ => exact ⟨_, h.cell 1, by decide⟩
  | 2, _ => exact ⟨_, h.cell 2, by decide⟩
  | 3, _ => exact ⟨_, h.cell 3, by decide⟩
  | 4, _ => exact ⟨_, h.cell 4, by decide⟩
set_option maxRecDepth 20000 in
set_option maxHeartbeats 2000000 in
theorem exKey_all (W0 w : World) (c : Nat) (a : Option Addr) (len cap p : Nat) (h : Src W0 w c a len cap p) (hp : p ≤ 800000000) :
    Calls Tryz.prog 58 #[.pointer (some ⟨c, 0, none⟩)] w fun e w' => (∃ u : ByteArray, e = .returned (.string u) ∧ u.size ≤ 3) ∧ Src W0 w' c a len cap (p + 1) ∧ w.grownBy w' (some c) := by
  obtain ⟨W1, hW1⟩ : ∃ W, W = w.alloc (.cells exW 9) := ⟨_, rfl⟩
  have G1 : Hid (w.grownBy W1 (some c)) := by rw [hW1]; exact World.grownBy_alloc _ _ _
  have S1 : Hid (Src W0 W1 c a len cap p) := by rw [hW1]; exact h.alloc _
  have T1 : Hid (RowAt W1 w.heap.size 9 exW) := by rw [hW1]; exact RowAt.new _ _ _
  have KN := hid (n_all W0 W1 c a len cap p 5 S1.out (by omega) (by omega) (by omega))
  have hc := h.lt
  clear h
  rw [hW1] at KN
  go_enter Tryz.func58, Tryz.ntmps58
  go_wp2_with fail
  refine KN.out.mono ?_
  rw [show (w.alloc (.cells exW 9)) = W1 from hW1.symm]
  rintro e w2 ⟨⟨r, rfl, hr0, hr1⟩, hs2, hg2⟩
  obtain ⟨r', rfl⟩ := Int.eq_ofNat_of_zero_le hr0
  have S2 := hid hs2
  have G2 := hid (grown_trans G1.out hg2)
  have T2 := rowF T1.out hg2 hc
  obtain ⟨x, hx, hx3⟩ := exW_at T2 r' (by omega)
  have X3 := hid hx3
  clear hs2 hg2 hx3 T2 T1 hW1 KN
  go_wp2
  go_ret
  exact ⟨⟨_, rfl, X3.out⟩, S2.out, G2.out⟩
theorem recV_up (k : ByteArray) (g : Bool) (t : ByteArray) (hk : k.size ≤ 3) (ht : t.size ≤ 11) : (recV k g t).size ≤ 110000 := by
  unfold recV
  split
  · rename_i h
    have := recT_size k g t h.2.1 h.2.2.2
    rw [ByteArray.size_append, four_size]
    omega
  · exact Nat.zero_le _
end Go.Proofs.YtngkiokibldfjaaGreatDoor
namespace Go.Proofs.YtngkiokibldfjaaGreatDoor
open Go.RowKit
set_option linter.unusedVariables false
theorem rowNeX {w : World} {x y : Nat} {t u : TypeId} {cs ds : Array Value} (h : RowAt w x t cs) (k : RowAt w y u ds) (hn : t ≠ u) : x ≠ y := fun e => by
  subst e
  have := Option.some.inj (Eq.trans (Eq.symm h) k)
  injection this with _ h2
  exact hn h2
theorem kind11_at (k : Nat) (hk : k < 11) : ∃ x : Int, (#[.int .i64 1, .int .i64 1, .int .i64 1, .int .i64 2, .int .i64 3, .int .i64 4, .int .i64 5, .int .i64 6, .int .i64 6, .int .i64 7, .int .i64 8] : Array Value)[k]? = some (.int .i64 x) := by
  rcases (by omega : k = 0 ∨ k = 1 ∨ k = 2 ∨ k = 3 ∨ k = 4 ∨ k = 5 ∨ k = 6 ∨ k = 7 ∨ k = 8 ∨ k = 9 ∨ k = 10) with rfl | rfl | rfl | rfl | rfl | rfl | rfl | rfl | rfl | rfl | rfl
  all_goals exact ⟨_, rfl⟩
def dx5o0 : Oper := ⟨some 14, .buildSlice 63 11 #[(0, .const (.int .i64 1)), (1, .const (.int .i64 1)), (2, .const (.int .i64 1)), (3, .const (.int .i64 2)), (4, .const (.int .i64 3)), (5, .const (.int .i64 4)), (6, .const (.int .i64 5)), (7, .const (.int .i64 6)), (8, .const (.int .i64 6)), (9, .const (.int .i64 7)), (10, .const (.int .i64 8))], 63, "l07_extent.go:226", #[], none⟩
def dx5o1 : Oper := ⟨some 15, .move (.tmp 0), 73, "l07_extent.go:226", #[], none⟩
def dx5o2 : Oper := ⟨some 16, .call { callee := .value (.func 31), args := #[.tmp 15, .const (.int .i64 11)], argTypes := #[73, 2] }, 2, "l07_extent.go:226", #[⟨1, .data⟩], none⟩
def dx5o3 : Oper := ⟨some 17, .indexAddr 63 (.tmp 14) (.tmp 16), 0, "l07_extent.go:226", #[⟨0, .data⟩, ⟨2, .data⟩], none⟩
def dx5o4 : Oper := ⟨some 18, .load 2 (.tmp 17), 2, "l07_extent.go:226", #[⟨3, .data⟩], none⟩
def dx5o5 : Oper := ⟨some 19, .move (.tmp 0), 73, "l07_extent.go:226", #[], none⟩
def dx5o6 : Oper := ⟨some 20, .call { callee := .value (.func 58), args := #[.tmp 19], argTypes := #[73] }, 9, "l07_extent.go:226", #[⟨5, .data⟩, ⟨2, .chain⟩], none⟩
def dx5o7 : Oper := ⟨some 21, .build 27 #[(0, .tmp 18), (1, .tmp 20)], 27, "l07_extent.go:226", #[⟨4, .data⟩, ⟨6, .data⟩], none⟩
def dx5o8 : Oper := ⟨some 7, .alloc 27, 0, "l07_extent.go:226", #[], none⟩
def dx5o9 : Oper := ⟨none, .store 27 (.tmp 7) (.tmp 21), 0, "l07_extent.go:226", #[⟨8, .data⟩, ⟨7, .data⟩, ⟨6, .chain⟩, ⟨0, .phase⟩, ⟨1, .phase⟩, ⟨2, .phase⟩, ⟨3, .phase⟩, ⟨4, .phase⟩, ⟨5, .phase⟩, ⟨6, .phase⟩, ⟨7, .phase⟩, ⟨8, .phase⟩], none⟩
def dx5O : Array Oper := #[dx5o0, dx5o1, dx5o2, dx5o3, dx5o4, dx5o5, dx5o6, dx5o7, dx5o8, dx5o9]
structure dx5P where
  (W0 W1 : World)
  (c : Nat)
  (a : Option Addr)
  (len cap p : Nat)
  (s1 s2 s3 s4 s5 s6 s7 s8 s9 s10 s11 s12 s13 s14 s15 s16 s17 s18 s19 s20 s21 s22 s23 s24 s25 s26 s27 s28 s29 s30 s31 s32 s33 s34 s35 s36 s37 s38 s39 s40 s41 s42 s43 s44 s45 s46 s47 s48 s49 s50 s51 s52 s53 s54 s55 s56 s57 s58 : Value)
def dx5T (P : dx5P) (XT : Nat) (XB : Nat) (R2 : Nat) (kd : Int) (ky : ByteArray) (pp : Nat) (b0 b1 b2 b3 b4 b5 b6 b7 b8 b9 : Bool) : Array Value := #[.pointer (some ⟨P.c, 0, none⟩), P.s1, P.s2, P.s3, P.s4, P.s5, P.s6, sel b8 (.pointer (some ⟨XB, 0, none⟩)) (P.s7), P.s8, P.s9, P.s10, P.s11, P.s12, P.s13, sel b0 (.slice (some ⟨XT, 0, none⟩) 11 11) (P.s14), sel b1 (.pointer (some ⟨P.c, 0, none⟩)) (P.s15), sel b2 (.int .i64 (R2 : Int)) (P.s16), sel b3 (.pointer (some ⟨XT, R2, none⟩)) (P.s17), sel b4 (.int .i64 kd) (P.s18), sel b5 (.pointer (some ⟨P.c, 0, none⟩)) (P.s19), sel b6 (.string ky) (P.s20), sel b7 (.agg #[.int .i64 kd, .string ky, .string ⟨#[]⟩, .int .i64 0, .int .i64 0, .int .i64 0]) (P.s21), P.s22, P.s23, P.s24, P.s25, P.s26, P.s27, P.s28, P.s29, P.s30, P.s31, P.s32, P.s33, P.s34, P.s35, P.s36, P.s37, P.s38, P.s39, P.s40, P.s41, P.s42, P.s43, P.s44, P.s45, P.s46, P.s47, P.s48, P.s49, P.s50, P.s51, P.s52, P.s53, P.s54, P.s55, P.s56, P.s57, P.s58]
def dx5F (P : dx5P) (XT : Nat) (XB : Nat) (R2 : Nat) (kd : Int) (ky : ByteArray) (pp : Nat) (b0 b1 b2 b3 b4 b5 b6 b7 b8 b9 : Bool) (w : World) : Prop := (Src P.W0 w P.c P.a P.len P.cap pp) ∧ (pp ≤ P.p + 40 * (b2.toNat + b6.toNat)) ∧ (P.W1.grownBy w (some P.c)) ∧ (P.c < P.W1.heap.size) ∧ (b0 = true → RowAt w XT 2 #[.int .i64 1, .int .i64 1, .int .i64 1, .int .i64 2, .int .i64 3, .int .i64 4, .int .i64 5, .int .i64 6, .int .i64 6, .int .i64 7, .int .i64 8] ∧ P.W1.heap.size ≤ XT) ∧ (b2 = true → R2 < 11) ∧ (b8 = true → P.W1.heap.size ≤ XB ∧ RowAt w XB 27 (cond b9 #[.int .i64 kd, .string ky, .string ⟨#[]⟩, .int .i64 0, .int .i64 0, .int .i64 0] #[.int .i64 0, .string ⟨#[]⟩, .string ⟨#[]⟩, .int .i64 0, .int .i64 0, .int .i64 0])) ∧ (P.p ≤ 900000) ∧ (b6 = true → ky.size ≤ 3)
def dx5I (P : dx5P) (l : Array Bool) (f : Act) (w : World) : Prop :=
  ∃ (b0 b1 b2 b3 b4 b5 b6 b7 b8 b9 : Bool) (XT : Nat) (XB : Nat) (R2 : Nat) (kd : Int) (ky : ByteArray) (pp : Nat), l = #[b0, b1, b2, b3, b4, b5, b6, b7, b8, b9] ∧ f = { tmps := dx5T P XT XB R2 kd ky pp b0 b1 b2 b3 b4 b5 b6 b7 b8 b9, defers := [] } ∧ dx5F P XT XB R2 kd ky pp b0 b1 b2 b3 b4 b5 b6 b7 b8 b9 w
theorem dx5M {P : dx5P} {b0 b1 b2 b3 b4 b5 b6 b7 b8 b9 : Bool} (XT : Nat) (XB : Nat) (R2 : Nat) (kd : Int) (ky : ByteArray) (pp : Nat) {l : Array Bool} {f : Act} {w : World} (hl : l = #[b0, b1, b2, b3, b4, b5, b6, b7, b8, b9]) (hf : f = { tmps := dx5T P XT XB R2 kd ky pp b0 b1 b2 b3 b4 b5 b6 b7 b8 b9, defers := [] }) (h : dx5F P XT XB R2 kd ky pp b0 b1 b2 b3 b4 b5 b6 b7 b8 b9 w) : dx5I P l f w := ⟨b0, b1, b2, b3, b4, b5, b6, b7, b8, b9, XT, XB, R2, kd, ky, pp, hl, hf, h⟩
set_option maxRecDepth 20000 in
set_option maxHeartbeats 20000000 in
theorem dx5_step {Q : Exit → Act → World → Prop} (P : dx5P) (l : Array Bool) (f : Act) (w : World) (hC : Closed dx5O l) (hI : dx5I P l f w) (i : Nat) (h0 : l.getD i true = false) (o : Oper) (ho : dx5O[i]? = some o) (h1 : ∀ e ∈ o.after, Region.binds .any e = true → l.getD e.on false = true) : wpOp Tryz.prog dx5O Q i (dx5I P (l.setIfInBounds i true)) f w := by
  obtain ⟨b0, b1, b2, b3, b4, b5, b6, b7, b8, b9, XT, XB, R2, kd, ky, pp, rfl, rfl, hF⟩ := hI
  have hi : i < 10 := by
    rcases Nat.lt_or_ge i 10 with h | h
    · exact h
    · rw [show dx5O[i]? = none from Array.getElem?_eq_none h] at ho; cases ho
  rcases (by omega : i = 0 ∨ i = 1 ∨ i = 2 ∨ i = 3 ∨ i = 4 ∨ i = 5 ∨ i = 6 ∨ i = 7 ∨ i = 8 ∨ i = 9) with rfl | rfl | rfl | rfl | rfl | rfl | rfl | rfl | rfl | rfl
  · obtain rfl : dx5o0 = o := Option.some.inj ho
    obtain rfl : b0 = false := h0
    have hn := wayN_all hC (i := 0) rfl [(3, 0), (4, 3), (7, 4), (9, 0)] [] nk rfl; repeat (obtain ⟨rfl, hn⟩ := hn)
    obtain ⟨hS, hp, hg, hc, ht, hr2, hb, hk, hkz⟩ := hF
    refine wpOp_step (o := dx5o0) rfl (fun K hK => ?_)
    replace hK := hid hK
    simp only [dx5o0, dx5T, sel_f]
    go_simp
    exact hK.out _ _ (dx5M w.heap.size XB R2 kd ky pp rfl rfl ⟨hS.alloc _, hp, grown_al hg _, hc, fun _ => ⟨RowAt.new w _ _, hg.size⟩, hr2, fun h => ⟨(hb h).1, (hb h).2.alloc _⟩, hk, hkz⟩)
  · obtain rfl : dx5o1 = o := Option.some.inj ho
    obtain rfl : b1 = false := h0
    have hn := wayN_all hC (i := 1) rfl [(2, 1), (3, 2), (4, 3), (6, 2), (7, 4), (9, 1)] [] nk rfl; repeat (obtain ⟨rfl, hn⟩ := hn)
    obtain ⟨hS, hp, hg, hc, ht, hr2, hb, hk, hkz⟩ := hF
    simp only [Bool.toNat_false] at hp
    refine wpOp_step (o := dx5o1) rfl (fun K hK => ?_)
    replace hK := hid hK
    simp only [dx5o1, dx5T, sel_f]
    go_simp
    exact hK.out _ _ (dx5M XT XB R2 kd ky pp rfl rfl ⟨hS, hp, hg, hc, ht, hr2, hb, hk, hkz⟩)
  · obtain rfl : dx5o2 = o := Option.some.inj ho
    obtain rfl : b2 = false := h0
    have hn := wayP_all (o := dx5o2) hC h1 [(1, none)] [] nk rfl; repeat (obtain ⟨rfl, hn⟩ := hn)
    have hn := wayN_all hC (i := 2) rfl [(3, 2), (4, 3), (6, 2), (7, 4), (9, 2)] [] nk rfl; repeat (obtain ⟨rfl, hn⟩ := hn)
    obtain ⟨hS, hp, hg, hc, ht, hr2, hb, hk, hkz⟩ := hF
    simp only [Bool.toNat_false] at hp
    refine wpOp_step (o := dx5o2) rfl (fun K hK => ?_)
    replace hK := hid hK
    simp only [dx5o2, dx5T, sel_t, sel_f]
    go_simp
    refine (n_all P.W0 _ P.c P.a P.len P.cap pp 11 hS (by omega) (by omega) (by omega)).mono ?_
    rintro e w2 ⟨⟨r, rfl, h20, h21⟩, hs2, hg2⟩
    obtain ⟨R, rfl⟩ := Int.eq_ofNat_of_zero_le h20
    dsimp only
    exact hK.out _ _ (dx5M XT XB R kd ky (pp + 1) rfl rfl ⟨hs2, by show pp + 1 ≤ P.p + 40 * (1 + 0); omega, grown_trans hg hg2, hc, fun h => ⟨rowF (ht h).1 hg2 (by have := (ht h).2; omega), (ht h).2⟩, fun _ => by omega, fun h => ⟨(hb h).1, rowF (hb h).2 hg2 (by have := (hb h).1; omega)⟩, hk, hkz⟩)
  · obtain rfl : dx5o3 = o := Option.some.inj ho
    obtain rfl : b3 = false := h0
    have hn := wayP_all (o := dx5o3) hC h1 [(2, none), (0, none), (1, some 2)] [] nk rfl; repeat (obtain ⟨rfl, hn⟩ := hn)
    have hn := wayN_all hC (i := 3) rfl [(4, 3), (7, 4), (9, 3)] [] nk rfl; repeat (obtain ⟨rfl, hn⟩ := hn)
    obtain ⟨hS, hp, hg, hc, ht, hr2, hb, hk, hkz⟩ := hF
    simp only [Bool.toNat_true] at hp
    have r := hr2 rfl
    have r0 : (R2 : Int) < 11 := by omega
    refine wpOp_step (o := dx5o3) rfl (fun K hK => ?_)
    replace hK := hid hK
    simp only [dx5o3, dx5T, sel_t, sel_f]
    go_simp
    exact hK.out _ _ (dx5M XT XB R2 kd ky pp rfl rfl ⟨hS, hp, hg, hc, ht, hr2, hb, hk, hkz⟩)
  · obtain rfl : dx5o4 = o := Option.some.inj ho
    obtain rfl : b4 = false := h0
    have hn := wayP_all (o := dx5o4) hC h1 [(3, none), (0, some 3), (2, some 3), (1, some 2)] [] nk rfl; repeat (obtain ⟨rfl, hn⟩ := hn)
    have hn := wayN_all hC (i := 4) rfl [(7, 4), (9, 4)] [] nk rfl; repeat (obtain ⟨rfl, hn⟩ := hn)
    obtain ⟨hS, hp, hg, hc, ht, hr2, hb, hk, hkz⟩ := hF
    simp only [Bool.toNat_true] at hp
    obtain ⟨k2, hk2⟩ := kind11_at R2 (hr2 rfl)
    have c2 := ((ht rfl).1.cell R2).trans hk2
    refine wpOp_step (o := dx5o4) rfl (fun K hK => ?_)
    replace hK := hid hK
    simp only [dx5o4, dx5T, sel_t, sel_f]
    go_simp
    exact hK.out _ _ (dx5M XT XB R2 k2 ky pp rfl rfl ⟨hS, hp, hg, hc, ht, hr2, hb, hk, hkz⟩)
  · obtain rfl : dx5o5 = o := Option.some.inj ho
    obtain rfl : b5 = false := h0
    have hn := wayN_all hC (i := 5) rfl [(6, 5), (7, 6), (9, 5)] [] nk rfl; repeat (obtain ⟨rfl, hn⟩ := hn)
    obtain ⟨hS, hp, hg, hc, ht, hr2, hb, hk, hkz⟩ := hF
    simp only [Bool.toNat_false] at hp
    refine wpOp_step (o := dx5o5) rfl (fun K hK => ?_)
    replace hK := hid hK
    simp only [dx5o5, dx5T, sel_f]
    go_simp
    exact hK.out _ _ (dx5M XT XB R2 kd ky pp rfl rfl ⟨hS, hp, hg, hc, ht, hr2, hb, hk, hkz⟩)
  · obtain rfl : dx5o6 = o := Option.some.inj ho
    obtain rfl : b6 = false := h0
    have hn := wayP_all (o := dx5o6) hC h1 [(5, none), (2, none), (1, some 2)] [] nk rfl; repeat (obtain ⟨rfl, hn⟩ := hn)
    have hn := wayN_all hC (i := 6) rfl [(7, 6), (9, 6)] [] nk rfl; repeat (obtain ⟨rfl, hn⟩ := hn)
    obtain ⟨hS, hp, hg, hc, ht, hr2, hb, hk, hkz⟩ := hF
    simp only [Bool.toNat_true, Bool.toNat_false] at hp
    refine wpOp_step (o := dx5o6) rfl (fun K hK => ?_)
    replace hK := hid hK
    simp only [dx5o6, dx5T, sel_t, sel_f]
    go_simp
    refine (exKey_all P.W0 _ P.c P.a P.len P.cap pp hS (by omega)).mono ?_
    rintro e w2 ⟨⟨k2, rfl, hk2⟩, hs2, hg2⟩
    dsimp only
    exact hK.out _ _ (dx5M XT XB R2 kd k2 (pp + 1) rfl rfl ⟨hs2, by show pp + 1 ≤ P.p + 40 * (1 + 1); omega, grown_trans hg hg2, hc, fun h => ⟨rowF (ht h).1 hg2 (by have := (ht h).2; omega), (ht h).2⟩, hr2, fun h => ⟨(hb h).1, rowF (hb h).2 hg2 (by have := (hb h).1; omega)⟩, hk, fun _ => hk2⟩)
  · obtain rfl : dx5o7 = o := Option.some.inj ho
    obtain rfl : b7 = false := h0
    have hn := wayP_all (o := dx5o7) hC h1 [(6, none), (4, none), (2, some 6), (5, some 6), (3, some 4), (0, some 3), (1, some 2)] [] nk rfl; repeat (obtain ⟨rfl, hn⟩ := hn)
    have hn := wayN_all hC (i := 7) rfl [(9, 7)] [] nk rfl; repeat (obtain ⟨rfl, hn⟩ := hn)
    obtain ⟨hS, hp, hg, hc, ht, hr2, hb, hk, hkz⟩ := hF
    simp only [Bool.toNat_true] at hp
    refine wpOp_step (o := dx5o7) rfl (fun K hK => ?_)
    replace hK := hid hK
    simp only [dx5o7, dx5T, sel_t, sel_f]
    go_simp
    exact hK.out _ _ (dx5M XT XB R2 kd ky pp rfl rfl ⟨hS, hp, hg, hc, ht, hr2, hb, hk, hkz⟩)
  · obtain rfl : dx5o8 = o := Option.some.inj ho
    obtain rfl : b8 = false := h0
    have hn := wayN_all hC (i := 8) rfl [(9, 8)] [] nk rfl; repeat (obtain ⟨rfl, hn⟩ := hn)
    obtain ⟨hS, hp, hg, hc, ht, hr2, hb, hk, hkz⟩ := hF
    refine wpOp_step (o := dx5o8) rfl (fun K hK => ?_)
    replace hK := hid hK
    simp only [dx5o8, dx5T, sel_f]
    go_simp
    exact hK.out _ _ (dx5M XT w.heap.size R2 kd ky pp rfl rfl ⟨hS.alloc _, hp, grown_al hg _, hc, fun h => ⟨(ht h).1.alloc _, (ht h).2⟩, hr2, fun _ => ⟨hg.size, RowAt.new w _ _⟩, hk, hkz⟩)
  · obtain rfl : dx5o9 = o := Option.some.inj ho
    obtain rfl : b9 = false := h0
    have hn := wayP_all (o := dx5o9) hC h1 [(8, none), (7, none), (6, none), (5, none), (4, none), (3, none), (2, none), (1, none), (0, none)] [] nk rfl; repeat (obtain ⟨rfl, hn⟩ := hn)
    obtain ⟨hS, hp, hg, hc, ht, hr2, hb, hk, hkz⟩ := hF
    simp only [Bool.toNat_true] at hp
    have RB : RowAt w XB 27 #[.int .i64 0, .string ⟨#[]⟩, .string ⟨#[]⟩, .int .i64 0, .int .i64 0, .int .i64 0] := (hb rfl).2
    have XL := (hb rfl).1
    have hcx : P.c < XB := by omega
    have hne := rowNeX (ht rfl).1 RB (by decide)
    have q0 := RB.cell 0
    have q1 := RB.cell 1
    have q2 := RB.cell 2
    have q3 := RB.cell 3
    have q4 := RB.cell 4
    have q5 := RB.cell 5
    have f0 := RB.free 0
    have f1 := RB.free 1
    have f2 := RB.free 2
    have f3 := RB.free 3
    have f4 := RB.free 4
    have f5 := RB.free 5
    refine wpOp_step (o := dx5o9) rfl (fun K hK => ?_)
    replace hK := hid hK
    simp only [dx5o9, dx5T, sel_t]
    go_simp
    exact hK.out _ _ (dx5M XT XB R2 kd ky pp rfl rfl ⟨((((((hS.set hcx 0 _).set hcx 1 _).set hcx 2 _).set hcx 3 _).set hcx 4 _).set hcx 5 _), hp, (grown_farK (grown_farK (grown_farK (grown_farK (grown_farK (grown_farK hg XL 0 _) XL 1 _) XL 2 _) XL 3 _) XL 4 _) XL 5 _), hc, fun _ => ⟨(((((((ht rfl).1.other ⟨XB, 0, none⟩ _ hne).other ⟨XB, 1, none⟩ _ hne).other ⟨XB, 2, none⟩ _ hne).other ⟨XB, 3, none⟩ _ hne).other ⟨XB, 4, none⟩ _ hne).other ⟨XB, 5, none⟩ _ hne), (ht rfl).2⟩, hr2, fun _ => ⟨XL, ((((((RB.set 0 _).set 1 _).set 2 _).set 3 _).set 4 _).set 5 _)⟩, hk, hkz⟩)
set_option maxRecDepth 20000 in
set_option maxHeartbeats 4000000 in
theorem dx5_wp {Q : Exit → Act → World → Prop} {rid : Nat} (W0 W1 : World) (c : Nat) (a : Option Addr) (len cap p : Nat) {s1 s2 s3 s4 s5 s6 s7 s8 s9 s10 s11 s12 s13 s14 s15 s16 s17 s18 s19 s20 s21 s22 s23 s24 s25 s26 s27 s28 s29 s30 s31 s32 s33 s34 s35 s36 s37 s38 s39 s40 s41 s42 s43 s44 s45 s46 s47 s48 s49 s50 s51 s52 s53 s54 s55 s56 s57 s58 : Value} (w : World) (hS : Src W0 w c a len cap p) (hg : W1.grownBy w (some c)) (hc : c < W1.heap.size) (hk : p ≤ 900000)
    (fin : ∀ (XT : Nat) (XB : Nat) (R2 : Nat) (kd : Int) (ky : ByteArray) (pp : Nat) (w' : World), (Src W0 w' c a len cap pp) → (pp ≤ p + 40 * (1 + 1)) → (W1.grownBy w' (some c)) → (c < W1.heap.size) → (RowAt w' XT 2 #[.int .i64 1, .int .i64 1, .int .i64 1, .int .i64 2, .int .i64 3, .int .i64 4, .int .i64 5, .int .i64 6, .int .i64 6, .int .i64 7, .int .i64 8] ∧ W1.heap.size ≤ XT) → (R2 < 11) → (W1.heap.size ≤ XB ∧ RowAt w' XB 27 (cond true #[.int .i64 kd, .string ky, .string ⟨#[]⟩, .int .i64 0, .int .i64 0, .int .i64 0] #[.int .i64 0, .string ⟨#[]⟩, .string ⟨#[]⟩, .int .i64 0, .int .i64 0, .int .i64 0])) → (p ≤ 900000) → (ky.size ≤ 3) → Q .normal { tmps := #[.pointer (some ⟨c, 0, none⟩), s1, s2, s3, s4, s5, s6, .pointer (some ⟨XB, 0, none⟩), s8, s9, s10, s11, s12, s13, .slice (some ⟨XT, 0, none⟩) 11 11, .pointer (some ⟨c, 0, none⟩), .int .i64 (R2 : Int), .pointer (some ⟨XT, R2, none⟩), .int .i64 kd, .pointer (some ⟨c, 0, none⟩), .string ky, .agg #[.int .i64 kd, .string ky, .string ⟨#[]⟩, .int .i64 0, .int .i64 0, .int .i64 0], s22, s23, s24, s25, s26, s27, s28, s29, s30, s31, s32, s33, s34, s35, s36, s37, s38, s39, s40, s41, s42, s43, s44, s45, s46, s47, s48, s49, s50, s51, s52, s53, s54, s55, s56, s57, s58], defers := [] } w') :
    (Code.region rid dx5O true).wp Tryz.prog Q { tmps := #[.pointer (some ⟨c, 0, none⟩), s1, s2, s3, s4, s5, s6, s7, s8, s9, s10, s11, s12, s13, s14, s15, s16, s17, s18, s19, s20, s21, s22, s23, s24, s25, s26, s27, s28, s29, s30, s31, s32, s33, s34, s35, s36, s37, s38, s39, s40, s41, s42, s43, s44, s45, s46, s47, s48, s49, s50, s51, s52, s53, s54, s55, s56, s57, s58], defers := [] } w := by
  refine wp_region_inv (ops := dx5O) (dx5I ⟨W0, W1, c, a, len, cap, p, s1, s2, s3, s4, s5, s6, s7, s8, s9, s10, s11, s12, s13, s14, s15, s16, s17, s18, s19, s20, s21, s22, s23, s24, s25, s26, s27, s28, s29, s30, s31, s32, s33, s34, s35, s36, s37, s38, s39, s40, s41, s42, s43, s44, s45, s46, s47, s48, s49, s50, s51, s52, s53, s54, s55, s56, s57, s58⟩) (by kernel_rfl) (by kernel_rfl) (fun l f v hI => ?_) (fun l f v hC hI i h0 o ho h1 => dx5_step ⟨W0, W1, c, a, len, cap, p, s1, s2, s3, s4, s5, s6, s7, s8, s9, s10, s11, s12, s13, s14, s15, s16, s17, s18, s19, s20, s21, s22, s23, s24, s25, s26, s27, s28, s29, s30, s31, s32, s33, s34, s35, s36, s37, s38, s39, s40, s41, s42, s43, s44, s45, s46, s47, s48, s49, s50, s51, s52, s53, s54, s55, s56, s57, s58⟩ l f v hC hI i h0 o ho h1) (fun l f v hI hall => ?_) ?_
  · obtain ⟨_, _, _, _, _, _, _, _, _, _, _, _, _, _, _, _, rfl, _⟩ := hI; rfl
  · obtain ⟨b0, b1, b2, b3, b4, b5, b6, b7, b8, b9, XT, XB, R2, kd, ky, pp, rfl, rfl, hS, hp, hg, hc, ht, hr2, hb, hk, hkz⟩ := hI
    have hn := allT hall [0, 1, 2, 3, 4, 5, 6, 7, 8, 9] rfl; repeat (obtain ⟨rfl, hn⟩ := hn)
    exact fin XT XB R2 kd ky pp v hS hp hg hc (ht rfl) (hr2 rfl) (hb rfl) hk (hkz rfl)
  · exact ⟨false, false, false, false, false, false, false, false, false, false, 0, 0, 0, 0, ⟨#[]⟩, p, rfl, rfl, hS.drew, Nat.le_add_right _ _, grown_trans hg (grown_drewS _ _), hc, fun h => Bool.noConfusion h, fun h => Bool.noConfusion h, fun h => Bool.noConfusion h, hk, fun h => Bool.noConfusion h⟩
end Go.Proofs.YtngkiokibldfjaaGreatDoor
