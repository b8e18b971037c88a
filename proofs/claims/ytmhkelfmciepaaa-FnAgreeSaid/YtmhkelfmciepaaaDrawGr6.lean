import Derived.Test.YtmhkelfmciepaaaDrawKit3
namespace Go.Proofs.Ytmhkelfmciepaaa
open Go.RowKit
set_option linter.unusedVariables false
theorem rowNeG {w : World} {x y : Nat} {t u : TypeId} {cs ds : Array Value} (h : RowAt w x t cs) (k : RowAt w y u ds) (hn : t ≠ u) : x ≠ y := fun e => by
  subst e
  have := Option.some.inj (Eq.trans (Eq.symm h) k)
  injection this with _ h2
  exact hn h2
theorem kindC_at (k : Nat) (hk : k < 8) : ∃ x : Int, (#[.int .i64 1, .int .i64 2, .int .i64 2, .int .i64 3, .int .i64 3, .int .i64 3, .int .i64 3, .int .i64 4] : Array Value)[k]? = some (.int .i64 x) ∧ 1 ≤ x ∧ x ≤ 4 := by
  rcases (by omega : k = 0 ∨ k = 1 ∨ k = 2 ∨ k = 3 ∨ k = 4 ∨ k = 5 ∨ k = 6 ∨ k = 7) with rfl | rfl | rfl | rfl | rfl | rfl | rfl | rfl
  all_goals exact ⟨_, rfl, by decide, by decide⟩
def dg6o0 : Oper := ⟨some 21, .buildSlice 27 8 #[(0, .const (.int .i64 1)), (1, .const (.int .i64 2)), (2, .const (.int .i64 2)), (3, .const (.int .i64 3)), (4, .const (.int .i64 3)), (5, .const (.int .i64 3)), (6, .const (.int .i64 3)), (7, .const (.int .i64 4))], 27, "l15_group.go:188", #[], none⟩
def dg6o1 : Oper := ⟨some 22, .move (.tmp 0), 48, "l15_group.go:188", #[], none⟩
def dg6o2 : Oper := ⟨some 23, .call { callee := .value (.func 13), args := #[.tmp 22, .const (.int .i64 8)], argTypes := #[48, 2] }, 2, "l15_group.go:188", #[⟨1, .data⟩], none⟩
def dg6o3 : Oper := ⟨some 24, .indexAddr 27 (.tmp 21) (.tmp 23), 0, "l15_group.go:188", #[⟨0, .data⟩, ⟨2, .data⟩], none⟩
def dg6o4 : Oper := ⟨some 25, .load 2 (.tmp 24), 2, "l15_group.go:188", #[⟨3, .data⟩], none⟩
def dg6o5 : Oper := ⟨some 26, .move (.tmp 8), 2, "l15_group.go:188", #[], none⟩
def dg6o6 : Oper := ⟨some 27, .move (.tmp 0), 48, "l15_group.go:188", #[], none⟩
def dg6o7 : Oper := ⟨some 28, .move (.tmp 1), 2, "l15_group.go:188", #[], none⟩
def dg6o8 : Oper := ⟨some 29, .call { callee := .value (.func 13), args := #[.tmp 27, .tmp 28], argTypes := #[48, 2] }, 2, "l15_group.go:188", #[⟨6, .data⟩, ⟨7, .data⟩, ⟨2, .chain⟩], none⟩
def dg6o9 : Oper := ⟨some 30, .move (.tmp 0), 48, "l15_group.go:188", #[], none⟩
def dg6o10 : Oper := ⟨some 31, .call { callee := .value (.func 22), args := #[.tmp 30], argTypes := #[48] }, 9, "l15_group.go:188", #[⟨9, .data⟩, ⟨8, .chain⟩], none⟩
def dg6o11 : Oper := ⟨some 32, .build 42 #[(0, .tmp 25), (1, .tmp 26), (2, .tmp 29), (4, .tmp 31)], 42, "l15_group.go:188", #[⟨4, .data⟩, ⟨5, .data⟩, ⟨8, .data⟩, ⟨10, .data⟩], none⟩
def dg6o12 : Oper := ⟨some 10, .alloc 42, 0, "l15_group.go:188", #[], none⟩
def dg6o13 : Oper := ⟨none, .store 42 (.tmp 10) (.tmp 32), 0, "l15_group.go:188", #[⟨12, .data⟩, ⟨11, .data⟩, ⟨10, .chain⟩, ⟨0, .phase⟩, ⟨1, .phase⟩, ⟨2, .phase⟩, ⟨3, .phase⟩, ⟨4, .phase⟩, ⟨5, .phase⟩, ⟨6, .phase⟩, ⟨7, .phase⟩, ⟨8, .phase⟩, ⟨9, .phase⟩, ⟨10, .phase⟩, ⟨11, .phase⟩, ⟨12, .phase⟩], none⟩
def dg6O : Array Oper := #[dg6o0, dg6o1, dg6o2, dg6o3, dg6o4, dg6o5, dg6o6, dg6o7, dg6o8, dg6o9, dg6o10, dg6o11, dg6o12, dg6o13]
structure dg6P where
  (W0 W1 : World)
  (c : Nat)
  (a : Option Addr)
  (len cap p : Nat)
  (mm : Nat)
  (ld : Int)
  (s2 s3 s4 s5 s6 s7 s9 s10 s11 s12 s13 s14 s15 s16 s17 s18 s19 s20 s21 s22 s23 s24 s25 s26 s27 s28 s29 s30 s31 s32 s33 s34 s35 s36 s37 s38 s39 s40 s41 s42 s43 s44 s45 s46 s47 s48 s49 s50 s51 s52 s53 s54 s55 s56 s57 s58 s59 s60 s61 s62 s63 s64 s65 s66 s67 s68 s69 s70 s71 s72 s73 s74 s75 s76 s77 s78 s79 s80 s81 s82 s83 s84 s85 s86 s87 s88 s89 s90 s91 s92 s93 s94 s95 s96 s97 s98 s99 s100 s101 s102 s103 s104 s105 s106 s107 s108 s109 s110 s111 s112 s113 s114 s115 s116 s117 s118 s119 s120 s121 s122 s123 s124 s125 s126 : Value)
def dg6T (P : dg6P) (XT : Nat) (XB : Nat) (R2 : Nat) (kd : Int) (R8 : Nat) (wd : ByteArray) (pp : Nat) (b0 b1 b2 b3 b4 b5 b6 b7 b8 b9 b10 b11 b12 b13 : Bool) : Array Value := #[.pointer (some ⟨P.c, 0, none⟩), .int .i64 (P.mm : Int), P.s2, P.s3, P.s4, P.s5, P.s6, P.s7, .int .i64 P.ld, P.s9, sel b12 (.pointer (some ⟨XB, 0, none⟩)) (P.s10), P.s11, P.s12, P.s13, P.s14, P.s15, P.s16, P.s17, P.s18, P.s19, P.s20, sel b0 (.slice (some ⟨XT, 0, none⟩) 8 8) (P.s21), sel b1 (.pointer (some ⟨P.c, 0, none⟩)) (P.s22), sel b2 (.int .i64 (R2 : Int)) (P.s23), sel b3 (.pointer (some ⟨XT, R2, none⟩)) (P.s24), sel b4 (.int .i64 kd) (P.s25), sel b5 (.int .i64 P.ld) (P.s26), sel b6 (.pointer (some ⟨P.c, 0, none⟩)) (P.s27), sel b7 (.int .i64 (P.mm : Int)) (P.s28), sel b8 (.int .i64 (R8 : Int)) (P.s29), sel b9 (.pointer (some ⟨P.c, 0, none⟩)) (P.s30), sel b10 (.string wd) (P.s31), sel b11 (.agg #[.int .i64 kd, .int .i64 P.ld, .int .i64 (R8 : Int), .slice none 0 0, .string wd]) (P.s32), P.s33, P.s34, P.s35, P.s36, P.s37, P.s38, P.s39, P.s40, P.s41, P.s42, P.s43, P.s44, P.s45, P.s46, P.s47, P.s48, P.s49, P.s50, P.s51, P.s52, P.s53, P.s54, P.s55, P.s56, P.s57, P.s58, P.s59, P.s60, P.s61, P.s62, P.s63, P.s64, P.s65, P.s66, P.s67, P.s68, P.s69, P.s70, P.s71, P.s72, P.s73, P.s74, P.s75, P.s76, P.s77, P.s78, P.s79, P.s80, P.s81, P.s82, P.s83, P.s84, P.s85, P.s86, P.s87, P.s88, P.s89, P.s90, P.s91, P.s92, P.s93, P.s94, P.s95, P.s96, P.s97, P.s98, P.s99, P.s100, P.s101, P.s102, P.s103, P.s104, P.s105, P.s106, P.s107, P.s108, P.s109, P.s110, P.s111, P.s112, P.s113, P.s114, P.s115, P.s116, P.s117, P.s118, P.s119, P.s120, P.s121, P.s122, P.s123, P.s124, P.s125, P.s126]
def dg6F (P : dg6P) (XT : Nat) (XB : Nat) (R2 : Nat) (kd : Int) (R8 : Nat) (wd : ByteArray) (pp : Nat) (b0 b1 b2 b3 b4 b5 b6 b7 b8 b9 b10 b11 b12 b13 : Bool) (w : World) : Prop := (Src P.W0 w P.c P.a P.len P.cap pp) ∧ (pp ≤ P.p + 40 * (b2.toNat + b8.toNat + b10.toNat)) ∧ (P.W1.grownBy w (some P.c)) ∧ (P.c < P.W1.heap.size) ∧ (b0 = true → RowAt w XT 2 #[.int .i64 1, .int .i64 2, .int .i64 2, .int .i64 3, .int .i64 3, .int .i64 3, .int .i64 3, .int .i64 4] ∧ P.W1.heap.size ≤ XT) ∧ (b2 = true → R2 < 8) ∧ (b4 = true → 1 ≤ kd ∧ kd ≤ 4) ∧ (b8 = true → R8 < P.mm) ∧ (b10 = true → wd.size ≤ 6) ∧ (b12 = true → P.W1.heap.size ≤ XB ∧ RowAt w XB 42 (cond b13 #[.int .i64 kd, .int .i64 P.ld, .int .i64 (R8 : Int), .slice none 0 0, .string wd] #[.int .i64 0, .int .i64 0, .int .i64 0, .slice none 0 0, .string ⟨#[]⟩])) ∧ (P.p ≤ 900000 ∧ 1 ≤ P.mm ∧ P.mm ≤ 9)
def dg6I (P : dg6P) (l : Array Bool) (f : Act) (w : World) : Prop :=
  ∃ (b0 b1 b2 b3 b4 b5 b6 b7 b8 b9 b10 b11 b12 b13 : Bool) (XT : Nat) (XB : Nat) (R2 : Nat) (kd : Int) (R8 : Nat) (wd : ByteArray) (pp : Nat), l = #[b0, b1, b2, b3, b4, b5, b6, b7, b8, b9, b10, b11, b12, b13] ∧ f = { tmps := dg6T P XT XB R2 kd R8 wd pp b0 b1 b2 b3 b4 b5 b6 b7 b8 b9 b10 b11 b12 b13, defers := [] } ∧ dg6F P XT XB R2 kd R8 wd pp b0 b1 b2 b3 b4 b5 b6 b7 b8 b9 b10 b11 b12 b13 w
theorem dg6M {P : dg6P} {b0 b1 b2 b3 b4 b5 b6 b7 b8 b9 b10 b11 b12 b13 : Bool} (XT : Nat) (XB : Nat) (R2 : Nat) (kd : Int) (R8 : Nat) (wd : ByteArray) (pp : Nat) {l : Array Bool} {f : Act} {w : World} (hl : l = #[b0, b1, b2, b3, b4, b5, b6, b7, b8, b9, b10, b11, b12, b13]) (hf : f = { tmps := dg6T P XT XB R2 kd R8 wd pp b0 b1 b2 b3 b4 b5 b6 b7 b8 b9 b10 b11 b12 b13, defers := [] }) (h : dg6F P XT XB R2 kd R8 wd pp b0 b1 b2 b3 b4 b5 b6 b7 b8 b9 b10 b11 b12 b13 w) : dg6I P l f w := ⟨b0, b1, b2, b3, b4, b5, b6, b7, b8, b9, b10, b11, b12, b13, XT, XB, R2, kd, R8, wd, pp, hl, hf, h⟩
set_option maxRecDepth 20000 in
set_option maxHeartbeats 20000000 in
theorem dg6_step {Q : Exit → Act → World → Prop} (P : dg6P) (l : Array Bool) (f : Act) (w : World) (hC : Closed dg6O l) (hI : dg6I P l f w) (i : Nat) (h0 : l.getD i true = false) (o : Oper) (ho : dg6O[i]? = some o) (h1 : ∀ e ∈ o.after, Region.binds .any e = true → l.getD e.on false = true) : wpOp Try.prog dg6O Q i (dg6I P (l.setIfInBounds i true)) f w := by
  obtain ⟨b0, b1, b2, b3, b4, b5, b6, b7, b8, b9, b10, b11, b12, b13, XT, XB, R2, kd, R8, wd, pp, rfl, rfl, hF⟩ := hI
  have hi : i < 14 := by
    rcases Nat.lt_or_ge i 14 with h | h
    · exact h
    · rw [show dg6O[i]? = none from Array.getElem?_eq_none h] at ho; cases ho
  rcases (by omega : i = 0 ∨ i = 1 ∨ i = 2 ∨ i = 3 ∨ i = 4 ∨ i = 5 ∨ i = 6 ∨ i = 7 ∨ i = 8 ∨ i = 9 ∨ i = 10 ∨ i = 11 ∨ i = 12 ∨ i = 13) with rfl | rfl | rfl | rfl | rfl | rfl | rfl | rfl | rfl | rfl | rfl | rfl | rfl | rfl
  · obtain rfl : dg6o0 = o := Option.some.inj ho
    obtain rfl : b0 = false := h0
    have hn := wayN_all hC (i := 0) rfl [(3, 0), (4, 3), (11, 4), (13, 0)] [] nk rfl; repeat (obtain ⟨rfl, hn⟩ := hn)
    obtain ⟨hS, hp, hg, hc, ht, hr2, hkd, hr8, hwd, hb, hk⟩ := hF
    refine wpOp_step (o := dg6o0) rfl (fun K hK => ?_)
    replace hK := hid hK
    simp only [dg6o0, dg6T, sel_f]
    go_simp
    exact hK.out _ _ (dg6M w.heap.size XB R2 kd R8 wd pp rfl rfl ⟨hS.alloc _, hp, grown_al hg _, hc, fun _ => ⟨RowAt.new w _ _, hg.size⟩, hr2, hkd, hr8, hwd, fun h => ⟨(hb h).1, (hb h).2.alloc _⟩, hk⟩)
  · obtain rfl : dg6o1 = o := Option.some.inj ho
    obtain rfl : b1 = false := h0
    have hn := wayN_all hC (i := 1) rfl [(2, 1), (3, 2), (4, 3), (8, 2), (10, 8), (11, 4), (13, 1)] [] nk rfl; repeat (obtain ⟨rfl, hn⟩ := hn)
    obtain ⟨hS, hp, hg, hc, ht, hr2, hkd, hr8, hwd, hb, hk⟩ := hF
    simp only [Bool.toNat_false] at hp
    refine wpOp_step (o := dg6o1) rfl (fun K hK => ?_)
    replace hK := hid hK
    simp only [dg6o1, dg6T, sel_f]
    go_simp
    exact hK.out _ _ (dg6M XT XB R2 kd R8 wd pp rfl rfl ⟨hS, hp, hg, hc, ht, hr2, hkd, hr8, hwd, hb, hk⟩)
  · obtain rfl : dg6o2 = o := Option.some.inj ho
    obtain rfl : b2 = false := h0
    have hn := wayP_all (o := dg6o2) hC h1 [(1, none)] [] nk rfl; repeat (obtain ⟨rfl, hn⟩ := hn)
    have hn := wayN_all hC (i := 2) rfl [(3, 2), (4, 3), (8, 2), (10, 8), (11, 4), (13, 2)] [] nk rfl; repeat (obtain ⟨rfl, hn⟩ := hn)
    obtain ⟨hS, hp, hg, hc, ht, hr2, hkd, hr8, hwd, hb, hk⟩ := hF
    simp only [Bool.toNat_false] at hp
    refine wpOp_step (o := dg6o2) rfl (fun K hK => ?_)
    replace hK := hid hK
    simp only [dg6o2, dg6T, sel_t, sel_f]
    go_simp
    refine (n_all P.W0 _ P.c P.a P.len P.cap pp 8 hS (by omega) (by omega) (by omega)).mono ?_
    rintro e w2 ⟨⟨r, rfl, h20, h21⟩, hs2, hg2⟩
    obtain ⟨R, rfl⟩ := Int.eq_ofNat_of_zero_le h20
    dsimp only
    exact hK.out _ _ (dg6M XT XB R kd R8 wd (pp + 1) rfl rfl ⟨hs2, by show pp + 1 ≤ P.p + 40 * (1 + 0 + 0); omega, grown_trans hg hg2, hc, fun h => ⟨rowF (ht h).1 hg2 (by have := (ht h).2; omega), (ht h).2⟩, fun _ => by omega, hkd, hr8, hwd, fun h => ⟨(hb h).1, rowF (hb h).2 hg2 (by have := (hb h).1; omega)⟩, hk⟩)
  · obtain rfl : dg6o3 = o := Option.some.inj ho
    obtain rfl : b3 = false := h0
    have hn := wayP_all (o := dg6o3) hC h1 [(2, none), (0, none), (1, some 2)] [] nk rfl; repeat (obtain ⟨rfl, hn⟩ := hn)
    have hn := wayN_all hC (i := 3) rfl [(4, 3), (11, 4), (13, 3)] [] nk rfl; repeat (obtain ⟨rfl, hn⟩ := hn)
    obtain ⟨hS, hp, hg, hc, ht, hr2, hkd, hr8, hwd, hb, hk⟩ := hF
    simp only [Bool.toNat_true] at hp
    have r := hr2 rfl
    have r0 : (R2 : Int) < 8 := by omega
    refine wpOp_step (o := dg6o3) rfl (fun K hK => ?_)
    replace hK := hid hK
    simp only [dg6o3, dg6T, sel_t, sel_f]
    go_simp
    exact hK.out _ _ (dg6M XT XB R2 kd R8 wd pp rfl rfl ⟨hS, hp, hg, hc, ht, hr2, hkd, hr8, hwd, hb, hk⟩)
  · obtain rfl : dg6o4 = o := Option.some.inj ho
    obtain rfl : b4 = false := h0
    have hn := wayP_all (o := dg6o4) hC h1 [(3, none), (0, some 3), (2, some 3), (1, some 2)] [] nk rfl; repeat (obtain ⟨rfl, hn⟩ := hn)
    have hn := wayN_all hC (i := 4) rfl [(11, 4), (13, 4)] [] nk rfl; repeat (obtain ⟨rfl, hn⟩ := hn)
    obtain ⟨hS, hp, hg, hc, ht, hr2, hkd, hr8, hwd, hb, hk⟩ := hF
    simp only [Bool.toNat_true] at hp
    obtain ⟨k2, hk2, hkk⟩ := kindC_at R2 (hr2 rfl)
    have c2 := ((ht rfl).1.cell R2).trans hk2
    refine wpOp_step (o := dg6o4) rfl (fun K hK => ?_)
    replace hK := hid hK
    simp only [dg6o4, dg6T, sel_t, sel_f]
    go_simp
    exact hK.out _ _ (dg6M XT XB R2 k2 R8 wd pp rfl rfl ⟨hS, hp, hg, hc, ht, hr2, fun _ => hkk, hr8, hwd, hb, hk⟩)
  · obtain rfl : dg6o5 = o := Option.some.inj ho
    obtain rfl : b5 = false := h0
    have hn := wayN_all hC (i := 5) rfl [(11, 5), (13, 5)] [] nk rfl; repeat (obtain ⟨rfl, hn⟩ := hn)
    obtain ⟨hS, hp, hg, hc, ht, hr2, hkd, hr8, hwd, hb, hk⟩ := hF
    refine wpOp_step (o := dg6o5) rfl (fun K hK => ?_)
    replace hK := hid hK
    simp only [dg6o5, dg6T, sel_f]
    go_simp
    exact hK.out _ _ (dg6M XT XB R2 kd R8 wd pp rfl rfl ⟨hS, hp, hg, hc, ht, hr2, hkd, hr8, hwd, hb, hk⟩)
  · obtain rfl : dg6o6 = o := Option.some.inj ho
    obtain rfl : b6 = false := h0
    have hn := wayN_all hC (i := 6) rfl [(8, 6), (10, 8), (11, 8), (13, 6)] [] nk rfl; repeat (obtain ⟨rfl, hn⟩ := hn)
    obtain ⟨hS, hp, hg, hc, ht, hr2, hkd, hr8, hwd, hb, hk⟩ := hF
    simp only [Bool.toNat_false] at hp
    refine wpOp_step (o := dg6o6) rfl (fun K hK => ?_)
    replace hK := hid hK
    simp only [dg6o6, dg6T, sel_f]
    go_simp
    exact hK.out _ _ (dg6M XT XB R2 kd R8 wd pp rfl rfl ⟨hS, hp, hg, hc, ht, hr2, hkd, hr8, hwd, hb, hk⟩)
  · obtain rfl : dg6o7 = o := Option.some.inj ho
    obtain rfl : b7 = false := h0
    have hn := wayN_all hC (i := 7) rfl [(8, 7), (10, 8), (11, 8), (13, 7)] [] nk rfl; repeat (obtain ⟨rfl, hn⟩ := hn)
    obtain ⟨hS, hp, hg, hc, ht, hr2, hkd, hr8, hwd, hb, hk⟩ := hF
    simp only [Bool.toNat_false] at hp
    refine wpOp_step (o := dg6o7) rfl (fun K hK => ?_)
    replace hK := hid hK
    simp only [dg6o7, dg6T, sel_f]
    go_simp
    exact hK.out _ _ (dg6M XT XB R2 kd R8 wd pp rfl rfl ⟨hS, hp, hg, hc, ht, hr2, hkd, hr8, hwd, hb, hk⟩)
  · obtain rfl : dg6o8 = o := Option.some.inj ho
    obtain rfl : b8 = false := h0
    have hn := wayP_all (o := dg6o8) hC h1 [(7, none), (6, none), (2, none), (1, some 2)] [] nk rfl; repeat (obtain ⟨rfl, hn⟩ := hn)
    have hn := wayN_all hC (i := 8) rfl [(10, 8), (11, 8), (13, 8)] [] nk rfl; repeat (obtain ⟨rfl, hn⟩ := hn)
    obtain ⟨hS, hp, hg, hc, ht, hr2, hkd, hr8, hwd, hb, hk⟩ := hF
    simp only [Bool.toNat_true, Bool.toNat_false] at hp
    refine wpOp_step (o := dg6o8) rfl (fun K hK => ?_)
    replace hK := hid hK
    simp only [dg6o8, dg6T, sel_t, sel_f]
    go_simp
    refine (n_all P.W0 _ P.c P.a P.len P.cap pp (P.mm : Int) hS (by omega) (by omega) (by omega)).mono ?_
    rintro e w2 ⟨⟨r, rfl, h20, h21⟩, hs2, hg2⟩
    obtain ⟨R, rfl⟩ := Int.eq_ofNat_of_zero_le h20
    dsimp only
    exact hK.out _ _ (dg6M XT XB R2 kd R wd (pp + 1) rfl rfl ⟨hs2, by show pp + 1 ≤ P.p + 40 * (1 + 1 + 0); omega, grown_trans hg hg2, hc, fun h => ⟨rowF (ht h).1 hg2 (by have := (ht h).2; omega), (ht h).2⟩, hr2, hkd, fun _ => by omega, hwd, fun h => ⟨(hb h).1, rowF (hb h).2 hg2 (by have := (hb h).1; omega)⟩, hk⟩)
  · obtain rfl : dg6o9 = o := Option.some.inj ho
    obtain rfl : b9 = false := h0
    have hn := wayN_all hC (i := 9) rfl [(10, 9), (11, 10), (13, 9)] [] nk rfl; repeat (obtain ⟨rfl, hn⟩ := hn)
    obtain ⟨hS, hp, hg, hc, ht, hr2, hkd, hr8, hwd, hb, hk⟩ := hF
    simp only [Bool.toNat_false] at hp
    refine wpOp_step (o := dg6o9) rfl (fun K hK => ?_)
    replace hK := hid hK
    simp only [dg6o9, dg6T, sel_f]
    go_simp
    exact hK.out _ _ (dg6M XT XB R2 kd R8 wd pp rfl rfl ⟨hS, hp, hg, hc, ht, hr2, hkd, hr8, hwd, hb, hk⟩)
  · obtain rfl : dg6o10 = o := Option.some.inj ho
    obtain rfl : b10 = false := h0
    have hn := wayP_all (o := dg6o10) hC h1 [(9, none), (8, none), (2, some 8), (6, some 8), (7, some 8), (1, some 2)] [] nk rfl; repeat (obtain ⟨rfl, hn⟩ := hn)
    have hn := wayN_all hC (i := 10) rfl [(11, 10), (13, 10)] [] nk rfl; repeat (obtain ⟨rfl, hn⟩ := hn)
    obtain ⟨hS, hp, hg, hc, ht, hr2, hkd, hr8, hwd, hb, hk⟩ := hF
    simp only [Bool.toNat_true, Bool.toNat_false] at hp
    refine wpOp_step (o := dg6o10) rfl (fun K hK => ?_)
    replace hK := hid hK
    simp only [dg6o10, dg6T, sel_t, sel_f]
    go_simp
    refine (word_all P.W0 _ P.c P.a P.len P.cap pp hS (by omega)).mono ?_
    rintro e w2 ⟨⟨wd2, rfl, hwd2⟩, ⟨p3, hs2, hp3⟩, hg2⟩
    dsimp only
    exact hK.out _ _ (dg6M XT XB R2 kd R8 wd2 p3 rfl rfl ⟨hs2, by show p3 ≤ P.p + 40 * (1 + 1 + 1); omega, grown_trans hg hg2, hc, fun h => ⟨rowF (ht h).1 hg2 (by have := (ht h).2; omega), (ht h).2⟩, hr2, hkd, hr8, fun _ => hwd2, fun h => ⟨(hb h).1, rowF (hb h).2 hg2 (by have := (hb h).1; omega)⟩, hk⟩)
  · obtain rfl : dg6o11 = o := Option.some.inj ho
    obtain rfl : b11 = false := h0
    have hn := wayP_all (o := dg6o11) hC h1 [(10, none), (8, none), (5, none), (4, none), (9, some 10), (2, some 8), (6, some 8), (7, some 8), (3, some 4), (0, some 3), (1, some 2)] [] nk rfl; repeat (obtain ⟨rfl, hn⟩ := hn)
    have hn := wayN_all hC (i := 11) rfl [(13, 11)] [] nk rfl; repeat (obtain ⟨rfl, hn⟩ := hn)
    obtain ⟨hS, hp, hg, hc, ht, hr2, hkd, hr8, hwd, hb, hk⟩ := hF
    simp only [Bool.toNat_true] at hp
    refine wpOp_step (o := dg6o11) rfl (fun K hK => ?_)
    replace hK := hid hK
    simp only [dg6o11, dg6T, sel_t, sel_f]
    go_simp
    exact hK.out _ _ (dg6M XT XB R2 kd R8 wd pp rfl rfl ⟨hS, hp, hg, hc, ht, hr2, hkd, hr8, hwd, hb, hk⟩)
  · obtain rfl : dg6o12 = o := Option.some.inj ho
    obtain rfl : b12 = false := h0
    have hn := wayN_all hC (i := 12) rfl [(13, 12)] [] nk rfl; repeat (obtain ⟨rfl, hn⟩ := hn)
    obtain ⟨hS, hp, hg, hc, ht, hr2, hkd, hr8, hwd, hb, hk⟩ := hF
    refine wpOp_step (o := dg6o12) rfl (fun K hK => ?_)
    replace hK := hid hK
    simp only [dg6o12, dg6T, sel_f]
    go_simp
    exact hK.out _ _ (dg6M XT w.heap.size R2 kd R8 wd pp rfl rfl ⟨hS.alloc _, hp, grown_al hg _, hc, fun h => ⟨(ht h).1.alloc _, (ht h).2⟩, hr2, hkd, hr8, hwd, fun _ => ⟨hg.size, RowAt.new w _ _⟩, hk⟩)
  · obtain rfl : dg6o13 = o := Option.some.inj ho
    obtain rfl : b13 = false := h0
    have hn := wayP_all (o := dg6o13) hC h1 [(12, none), (11, none), (10, none), (9, none), (8, none), (7, none), (6, none), (5, none), (4, none), (3, none), (2, none), (1, none), (0, none)] [] nk rfl; repeat (obtain ⟨rfl, hn⟩ := hn)
    obtain ⟨hS, hp, hg, hc, ht, hr2, hkd, hr8, hwd, hb, hk⟩ := hF
    simp only [Bool.toNat_true] at hp
    have RB : RowAt w XB 42 #[.int .i64 0, .int .i64 0, .int .i64 0, .slice none 0 0, .string ⟨#[]⟩] := (hb rfl).2
    have XL := (hb rfl).1
    have hcx : P.c < XB := by omega
    have hne := rowNeG (ht rfl).1 RB (by decide)
    have q0 := RB.cell 0
    have q1 := RB.cell 1
    have q2 := RB.cell 2
    have q3 := RB.cell 3
    have q4 := RB.cell 4
    have f0 := RB.free 0
    have f1 := RB.free 1
    have f2 := RB.free 2
    have f3 := RB.free 3
    have f4 := RB.free 4
    refine wpOp_step (o := dg6o13) rfl (fun K hK => ?_)
    replace hK := hid hK
    simp only [dg6o13, dg6T, sel_t]
    go_simp
    exact hK.out _ _ (dg6M XT XB R2 kd R8 wd pp rfl rfl ⟨(((((hS.set hcx 0 _).set hcx 1 _).set hcx 2 _).set hcx 3 _).set hcx 4 _), hp, (grown_far (grown_far (grown_far (grown_far (grown_far hg XL 0 _) XL 1 _) XL 2 _) XL 3 _) XL 4 _), hc, fun _ => ⟨((((((ht rfl).1.other ⟨XB, 0, none⟩ _ hne).other ⟨XB, 1, none⟩ _ hne).other ⟨XB, 2, none⟩ _ hne).other ⟨XB, 3, none⟩ _ hne).other ⟨XB, 4, none⟩ _ hne), (ht rfl).2⟩, hr2, hkd, hr8, hwd, fun _ => ⟨XL, (((((RB.set 0 _).set 1 _).set 2 _).set 3 _).set 4 _)⟩, hk⟩)
set_option maxRecDepth 20000 in
set_option maxHeartbeats 4000000 in
theorem dg6_wp {Q : Exit → Act → World → Prop} {rid : Nat} (W0 W1 : World) (c : Nat) (a : Option Addr) (len cap p : Nat) (mm : Nat) (ld : Int) {s2 s3 s4 s5 s6 s7 s9 s10 s11 s12 s13 s14 s15 s16 s17 s18 s19 s20 s21 s22 s23 s24 s25 s26 s27 s28 s29 s30 s31 s32 s33 s34 s35 s36 s37 s38 s39 s40 s41 s42 s43 s44 s45 s46 s47 s48 s49 s50 s51 s52 s53 s54 s55 s56 s57 s58 s59 s60 s61 s62 s63 s64 s65 s66 s67 s68 s69 s70 s71 s72 s73 s74 s75 s76 s77 s78 s79 s80 s81 s82 s83 s84 s85 s86 s87 s88 s89 s90 s91 s92 s93 s94 s95 s96 s97 s98 s99 s100 s101 s102 s103 s104 s105 s106 s107 s108 s109 s110 s111 s112 s113 s114 s115 s116 s117 s118 s119 s120 s121 s122 s123 s124 s125 s126 : Value} (w : World) (hS : Src W0 w c a len cap p) (hg : W1.grownBy w (some c)) (hc : c < W1.heap.size) (hk : p ≤ 900000 ∧ 1 ≤ mm ∧ mm ≤ 9)
    (fin : ∀ (XT : Nat) (XB : Nat) (R2 : Nat) (kd : Int) (R8 : Nat) (wd : ByteArray) (pp : Nat) (w' : World), (Src W0 w' c a len cap pp) → (pp ≤ p + 40 * (1 + 1 + 1)) → (W1.grownBy w' (some c)) → (c < W1.heap.size) → (RowAt w' XT 2 #[.int .i64 1, .int .i64 2, .int .i64 2, .int .i64 3, .int .i64 3, .int .i64 3, .int .i64 3, .int .i64 4] ∧ W1.heap.size ≤ XT) → (R2 < 8) → (1 ≤ kd ∧ kd ≤ 4) → (R8 < mm) → (wd.size ≤ 6) → (W1.heap.size ≤ XB ∧ RowAt w' XB 42 (cond true #[.int .i64 kd, .int .i64 ld, .int .i64 (R8 : Int), .slice none 0 0, .string wd] #[.int .i64 0, .int .i64 0, .int .i64 0, .slice none 0 0, .string ⟨#[]⟩])) → (p ≤ 900000 ∧ 1 ≤ mm ∧ mm ≤ 9) → Q .normal { tmps := #[.pointer (some ⟨c, 0, none⟩), .int .i64 (mm : Int), s2, s3, s4, s5, s6, s7, .int .i64 ld, s9, .pointer (some ⟨XB, 0, none⟩), s11, s12, s13, s14, s15, s16, s17, s18, s19, s20, .slice (some ⟨XT, 0, none⟩) 8 8, .pointer (some ⟨c, 0, none⟩), .int .i64 (R2 : Int), .pointer (some ⟨XT, R2, none⟩), .int .i64 kd, .int .i64 ld, .pointer (some ⟨c, 0, none⟩), .int .i64 (mm : Int), .int .i64 (R8 : Int), .pointer (some ⟨c, 0, none⟩), .string wd, .agg #[.int .i64 kd, .int .i64 ld, .int .i64 (R8 : Int), .slice none 0 0, .string wd], s33, s34, s35, s36, s37, s38, s39, s40, s41, s42, s43, s44, s45, s46, s47, s48, s49, s50, s51, s52, s53, s54, s55, s56, s57, s58, s59, s60, s61, s62, s63, s64, s65, s66, s67, s68, s69, s70, s71, s72, s73, s74, s75, s76, s77, s78, s79, s80, s81, s82, s83, s84, s85, s86, s87, s88, s89, s90, s91, s92, s93, s94, s95, s96, s97, s98, s99, s100, s101, s102, s103, s104, s105, s106, s107, s108, s109, s110, s111, s112, s113, s114, s115, s116, s117, s118, s119, s120, s121, s122, s123, s124, s125, s126], defers := [] } w') :
    (Code.region rid dg6O true).wp Try.prog Q { tmps := #[.pointer (some ⟨c, 0, none⟩), .int .i64 (mm : Int), s2, s3, s4, s5, s6, s7, .int .i64 ld, s9, s10, s11, s12, s13, s14, s15, s16, s17, s18, s19, s20, s21, s22, s23, s24, s25, s26, s27, s28, s29, s30, s31, s32, s33, s34, s35, s36, s37, s38, s39, s40, s41, s42, s43, s44, s45, s46, s47, s48, s49, s50, s51, s52, s53, s54, s55, s56, s57, s58, s59, s60, s61, s62, s63, s64, s65, s66, s67, s68, s69, s70, s71, s72, s73, s74, s75, s76, s77, s78, s79, s80, s81, s82, s83, s84, s85, s86, s87, s88, s89, s90, s91, s92, s93, s94, s95, s96, s97, s98, s99, s100, s101, s102, s103, s104, s105, s106, s107, s108, s109, s110, s111, s112, s113, s114, s115, s116, s117, s118, s119, s120, s121, s122, s123, s124, s125, s126], defers := [] } w := by
  refine wp_region_inv (ops := dg6O) (dg6I ⟨W0, W1, c, a, len, cap, p, mm, ld, s2, s3, s4, s5, s6, s7, s9, s10, s11, s12, s13, s14, s15, s16, s17, s18, s19, s20, s21, s22, s23, s24, s25, s26, s27, s28, s29, s30, s31, s32, s33, s34, s35, s36, s37, s38, s39, s40, s41, s42, s43, s44, s45, s46, s47, s48, s49, s50, s51, s52, s53, s54, s55, s56, s57, s58, s59, s60, s61, s62, s63, s64, s65, s66, s67, s68, s69, s70, s71, s72, s73, s74, s75, s76, s77, s78, s79, s80, s81, s82, s83, s84, s85, s86, s87, s88, s89, s90, s91, s92, s93, s94, s95, s96, s97, s98, s99, s100, s101, s102, s103, s104, s105, s106, s107, s108, s109, s110, s111, s112, s113, s114, s115, s116, s117, s118, s119, s120, s121, s122, s123, s124, s125, s126⟩) (by kernel_rfl) (by kernel_rfl) (fun l f v hI => ?_) (fun l f v hC hI i h0 o ho h1 => dg6_step ⟨W0, W1, c, a, len, cap, p, mm, ld, s2, s3, s4, s5, s6, s7, s9, s10, s11, s12, s13, s14, s15, s16, s17, s18, s19, s20, s21, s22, s23, s24, s25, s26, s27, s28, s29, s30, s31, s32, s33, s34, s35, s36, s37, s38, s39, s40, s41, s42, s43, s44, s45, s46, s47, s48, s49, s50, s51, s52, s53, s54, s55, s56, s57, s58, s59, s60, s61, s62, s63, s64, s65, s66, s67, s68, s69, s70, s71, s72, s73, s74, s75, s76, s77, s78, s79, s80, s81, s82, s83, s84, s85, s86, s87, s88, s89, s90, s91, s92, s93, s94, s95, s96, s97, s98, s99, s100, s101, s102, s103, s104, s105, s106, s107, s108, s109, s110, s111, s112, s113, s114, s115, s116, s117, s118, s119, s120, s121, s122, s123, s124, s125, s126⟩ l f v hC hI i h0 o ho h1) (fun l f v hI hall => ?_) ?_
  · obtain ⟨_, _, _, _, _, _, _, _, _, _, _, _, _, _, _, _, _, _, _, _, _, rfl, _⟩ := hI; rfl
  · obtain ⟨b0, b1, b2, b3, b4, b5, b6, b7, b8, b9, b10, b11, b12, b13, XT, XB, R2, kd, R8, wd, pp, rfl, rfl, hS, hp, hg, hc, ht, hr2, hkd, hr8, hwd, hb, hk⟩ := hI
    have hn := allT hall [0, 1, 2, 3, 4, 5, 6, 7, 8, 9, 10, 11, 12, 13] rfl; repeat (obtain ⟨rfl, hn⟩ := hn)
    exact fin XT XB R2 kd R8 wd pp v hS hp hg hc (ht rfl) (hr2 rfl) (hkd rfl) (hr8 rfl) (hwd rfl) (hb rfl) hk
  · exact ⟨false, false, false, false, false, false, false, false, false, false, false, false, false, false, 0, 0, 0, 0, 0, ⟨#[]⟩, p, rfl, rfl, hS.drew, Nat.le_add_right _ _, grown_trans hg (grown_drewS _ _), hc, fun h => Bool.noConfusion h, fun h => Bool.noConfusion h, fun h => Bool.noConfusion h, fun h => Bool.noConfusion h, fun h => Bool.noConfusion h, fun h => Bool.noConfusion h, hk⟩
end Go.Proofs.Ytmhkelfmciepaaa
