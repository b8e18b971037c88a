import Derived.Test.YtcbmgpdpjagaoaaGreatG4
namespace Go.Proofs.YtcbmgpdpjagaoaaGreat
open Go.RowKit
set_option linter.unusedVariables false
def ef1o0 : Oper := ⟨some 5, .load 46 (.tmp 2), 46, "l08_runs.go:220", #[], none⟩
def ef1o1 : Oper := ⟨some 6, .call { callee := .value (.func 43), args := #[.tmp 5], argTypes := #[46] }, 81, "l08_runs.go:220", #[⟨0, .data⟩], none⟩
def ef1o2 : Oper := ⟨some 7, .load 81 (.tmp 3), 81, "l08_runs.go:220", #[], none⟩
def ef1o3 : Oper := ⟨some 8, .call { callee := .value (.func 79), args := #[.tmp 6, .tmp 7], argTypes := #[81, 81] }, 3, "l08_runs.go:220", #[⟨1, .data⟩, ⟨2, .data⟩, ⟨1, .chain⟩], none⟩
def ef1o4 : Oper := ⟨some 4, .assign (.tmp 8), 3, "l08_runs.go:220", #[⟨3, .data⟩, ⟨3, .chain⟩, ⟨0, .phase⟩, ⟨1, .phase⟩, ⟨2, .phase⟩, ⟨3, .phase⟩], none⟩
def ef1O : Array Oper := #[ef1o0, ef1o1, ef1o2, ef1o3, ef1o4]
structure ef1P where
 (W1 : World)
 (BA BB : Nat)
 (kA tA kP : ByteArray)
 (qA qP : Int)
 (gA : Bool)
 (s0 s1 s4 s5 s6 s7 s8 : Value)
def ef1T (P : ef1P) (uu : Nat) (b0 b1 b2 b3 b4 : Bool) : Array Value := #[P.s0, P.s1, .pointer (some ⟨P.BA, 0, none⟩), .pointer (some ⟨P.BB, 0, none⟩), sel b4 (.int .i64 (orI (kCmp P.kA P.kP) (cmpI P.qP P.qA))) (P.s4), sel b0 (.agg #[.string P.kA, .int .i64 P.qA, .bool P.gA, .string P.tA]) (P.s5), sel b1 (.agg #[.string P.kA, .int .i64 P.qA]) (P.s6), sel b2 (.agg #[.string P.kP, .int .i64 P.qP]) (P.s7), sel b3 (.int .i64 (orI (kCmp P.kA P.kP) (cmpI P.qP P.qA))) (P.s8)]
def ef1F (P : ef1P) (uu : Nat) (b0 b1 b2 b3 b4 : Bool) (w : World) : Prop := (Below P.W1.heap.size P.W1 w) ∧ (RA P.W1 P.BA 46 #[.string P.kA, .int .i64 P.qA, .bool P.gA, .string P.tA]) ∧ (RA P.W1 P.BB 81 #[.string P.kP, .int .i64 P.qP])
def ef1I (P : ef1P) (l : Array Bool) (f : Act) (w : World) : Prop :=
 ∃ (b0 b1 b2 b3 b4 : Bool) (uu : Nat), l = #[b0, b1, b2, b3, b4] ∧ f = { tmps := ef1T P uu b0 b1 b2 b3 b4, defers := [] } ∧ ef1F P uu b0 b1 b2 b3 b4 w
theorem ef1M {P : ef1P} {b0 b1 b2 b3 b4 : Bool} (uu : Nat) {l : Array Bool} {f : Act} {w : World} (hl : l = #[b0, b1, b2, b3, b4]) (hf : f = { tmps := ef1T P uu b0 b1 b2 b3 b4, defers := [] }) (h : ef1F P uu b0 b1 b2 b3 b4 w) : ef1I P l f w := ⟨b0, b1, b2, b3, b4, uu, hl, hf, h⟩
set_option maxRecDepth 20000 in
set_option maxHeartbeats 20000000 in
theorem ef1_step {Q : Exit → Act → World → Prop} (P : ef1P) (l : Array Bool) (f : Act) (w : World) (hC : Closed ef1O l) (hI : ef1I P l f w) (i : Nat) (h0 : l.getD i true = false) (o : Oper) (ho : ef1O[i]? = some o) (h1 : ∀ e ∈ o.after, Region.binds .any e = true → l.getD e.on false = true) : wpOp Tryz.prog ef1O Q i (ef1I P (l.setIfInBounds i true)) f w := by
 obtain ⟨b0, b1, b2, b3, b4, uu, rfl, rfl, hF⟩ := hI
 have hi : i < 5 := by
  rcases Nat.lt_or_ge i 5 with h | h
  · exact h
  · rw [show ef1O[i]? = none from Array.getElem?_eq_none h] at ho; cases ho
 rcases (by omega : i = 0 ∨ i = 1 ∨ i = 2 ∨ i = 3 ∨ i = 4) with rfl | rfl | rfl | rfl | rfl
 · obtain rfl : ef1o0 = o := Option.some.inj ho
   obtain rfl : b0 = false := h0
   have hn := wN9 hC (i := 0) rfl [(1, 0), (3, 1), (4, 0)] [] nk rfl; repeat (obtain ⟨rfl, hn⟩ := hn)
   obtain ⟨hb, hA, hB⟩ := hF; have hA2 := hA.below hb hA.lt; have c0 := hA2.cell 0; have c1 := hA2.cell 1; have c2 := hA2.cell 2; have c3 := hA2.cell 3; refine wpOp_step (o := ef1o0) rfl (fun K hK => ?_); replace hK := hid hK; simp only [ef1o0, ef1T, sel_f]
   go_simp
   exact hK.out _ _ (ef1M uu rfl rfl ⟨hb, hA, hB⟩)
 · obtain rfl : ef1o1 = o := Option.some.inj ho
   obtain rfl : b1 = false := h0
   have hn := wP9 (o := ef1o1) hC h1 [(0, none)] [] nk rfl; repeat (obtain ⟨rfl, hn⟩ := hn)
   have hn := wN9 hC (i := 1) rfl [(3, 1), (4, 1)] [] nk rfl; repeat (obtain ⟨rfl, hn⟩ := hn)
   obtain ⟨hb, hA, hB⟩ := hF; refine wpOp_step (o := ef1o1) rfl (fun K hK => ?_); replace hK := hid hK; simp only [ef1o1, ef1T, sel_t, sel_f]
   go_simp
   refine (iPlaceOf P.kA P.qA P.gA P.tA _).mono ?_
   rintro e w2 ⟨rfl, hb2⟩
   dsimp only; exact hK.out _ _ (ef1M uu rfl rfl ⟨hb.trans (hb2.mono hb.size), hA, hB⟩)
 · obtain rfl : ef1o2 = o := Option.some.inj ho
   obtain rfl : b2 = false := h0
   have hn := wN9 hC (i := 2) rfl [(3, 2), (4, 2)] [] nk rfl; repeat (obtain ⟨rfl, hn⟩ := hn)
   obtain ⟨hb, hA, hB⟩ := hF; have hB2 := hB.below hb hB.lt; have c0 := hB2.cell 0; have c1 := hB2.cell 1; refine wpOp_step (o := ef1o2) rfl (fun K hK => ?_); replace hK := hid hK; simp only [ef1o2, ef1T, sel_f]
   go_simp
   exact hK.out _ _ (ef1M uu rfl rfl ⟨hb, hA, hB⟩)
 · obtain rfl : ef1o3 = o := Option.some.inj ho
   obtain rfl : b3 = false := h0
   have hn := wP9 (o := ef1o3) hC h1 [(2, none), (1, none), (0, some 1)] [] nk rfl; repeat (obtain ⟨rfl, hn⟩ := hn)
   have hn := wN9 hC (i := 3) rfl [(4, 3)] [] nk rfl; repeat (obtain ⟨rfl, hn⟩ := hn)
   obtain ⟨hb, hA, hB⟩ := hF; refine wpOp_step (o := ef1o3) rfl (fun K hK => ?_); replace hK := hid hK; simp only [ef1o3, ef1T, sel_t, sel_f]
   go_simp
   refine (iCmpP P.kA P.qA P.kP P.qP _).mono ?_
   rintro e w2 ⟨rfl, hb2⟩
   dsimp only; exact hK.out _ _ (ef1M uu rfl rfl ⟨hb.trans (hb2.mono hb.size), hA, hB⟩)
 · obtain rfl : ef1o4 = o := Option.some.inj ho
   obtain rfl : b4 = false := h0
   have hn := wP9 (o := ef1o4) hC h1 [(3, none), (2, none), (1, none), (0, none)] [] nk rfl; repeat (obtain ⟨rfl, hn⟩ := hn)
   obtain ⟨hb, hA, hB⟩ := hF; refine wpOp_step (o := ef1o4) rfl (fun K hK => ?_); replace hK := hid hK; simp only [ef1o4, ef1T, sel_t, sel_f]
   go_simp
   exact hK.out _ _ (ef1M uu rfl rfl ⟨hb, hA, hB⟩)
set_option maxRecDepth 20000 in
set_option maxHeartbeats 4000000 in
theorem ef1_wp {Q : Exit → Act → World → Prop} {rid : Nat} (W1 : World) (BA BB : Nat) (kA tA kP : ByteArray) (qA qP : Int) (gA : Bool) {s0 s1 s4 s5 s6 s7 s8 : Value} (w : World) (hb : Below W1.heap.size W1 w) (hA : RA W1 BA 46 #[.string kA, .int .i64 qA, .bool gA, .string tA]) (hB : RA W1 BB 81 #[.string kP, .int .i64 qP])
 (fin : ∀ (uu : Nat) (w' : World), (Below W1.heap.size W1 w') → (RA W1 BA 46 #[.string kA, .int .i64 qA, .bool gA, .string tA]) → (RA W1 BB 81 #[.string kP, .int .i64 qP]) → Q .normal { tmps := #[s0, s1, .pointer (some ⟨BA, 0, none⟩), .pointer (some ⟨BB, 0, none⟩), .int .i64 (orI (kCmp kA kP) (cmpI qP qA)), .agg #[.string kA, .int .i64 qA, .bool gA, .string tA], .agg #[.string kA, .int .i64 qA], .agg #[.string kP, .int .i64 qP], .int .i64 (orI (kCmp kA kP) (cmpI qP qA))], defers := [] } w') :
 (Code.region rid ef1O true).wp Tryz.prog Q { tmps := #[s0, s1, .pointer (some ⟨BA, 0, none⟩), .pointer (some ⟨BB, 0, none⟩), s4, s5, s6, s7, s8], defers := [] } w := by
 refine wp_region_inv (ops := ef1O) (ef1I ⟨W1, BA, BB, kA, tA, kP, qA, qP, gA, s0, s1, s4, s5, s6, s7, s8⟩) (by kernel_rfl) (by kernel_rfl) (fun l f v hI => ?_) (fun l f v hC hI i h0 o ho h1 => ef1_step ⟨W1, BA, BB, kA, tA, kP, qA, qP, gA, s0, s1, s4, s5, s6, s7, s8⟩ l f v hC hI i h0 o ho h1) (fun l f v hI hall => ?_) ?_
 · obtain ⟨_, _, _, _, _, _, rfl, _⟩ := hI; rfl
 · obtain ⟨b0, b1, b2, b3, b4, uu, rfl, rfl, hb, hA, hB⟩ := hI
   have hn := allT hall [0, 1, 2, 3, 4] rfl; repeat (obtain ⟨rfl, hn⟩ := hn)
   exact fin uu v hb hA hB
 · exact ⟨false, false, false, false, false, 0, rfl, rfl, hb.drew, hA, hB⟩
set_option maxRecDepth 20000 in
set_option maxHeartbeats 1000000 in
theorem iPlF (kA : ByteArray) (qA : Int) (gA : Bool) (tA kP : ByteArray) (qP : Int) (w : World) :
 Calls Tryz.prog 94 #[.agg #[.string kA, .int .i64 qA, .bool gA, .string tA], .agg #[.string kP, .int .i64 qP]] w fun e w' => e = .returned (.int .i64 (orI (kCmp kA kP) (cmpI qP qA))) ∧ Below w.heap.size w w' := by
 obtain ⟨W2, hW2⟩ : ∃ W, W = (w.alloc (.cells #[.string kA, .int .i64 qA, .bool gA, .string tA] 46)).alloc (.cells #[.string kP, .int .i64 qP] 81) := ⟨_, rfl⟩; have A : Hid (RA W2 w.heap.size 46 #[.string kA, .int .i64 qA, .bool gA, .string tA]) := by rw [hW2]; exact (RA.new _ _ _).alloc _
 have B : Hid (RA W2 (w.heap.size + 1) 81 #[.string kP, .int .i64 qP]) := by rw [hW2]; exact RA.next _ _ _ (by rw [World.size_alloc])
 have B0 : Hid (Below w.heap.size w W2) := by rw [hW2]; exact ((Below.refl _ _).alloc (Nat.le_refl _) _).alloc (by rw [World.size_alloc]; omega) _
 go_enter Tryz.func94, Tryz.ntmps94
 go_upto_region 1 with fail
 rw [← hW2]; clear hW2; refine ef1_wp W2 w.heap.size (w.heap.size + 1) kA tA kP qA qP gA W2 (Below.refl _ _) A.out B.out ?_; intro uu w1 hb; intros; have B1 := hid (B0.out.trans (hb.mono B0.out.size)); clear hb
 go_wp2
 go_ret
 exact ⟨rfl, B1.out⟩
def bs5o0 : Oper := ⟨some 24, .move (.tmp 2), 138, "sort.go:160", #[], none⟩
def bs5o1 : Oper := ⟨some 25, .move (.tmp 0), 23, "sort.go:160", #[], none⟩
def bs5o2 : Oper := ⟨some 26, .move (.tmp 11), 3, "sort.go:160", #[], none⟩
def bs5o3 : Oper := ⟨some 27, .indexAddr 23 (.tmp 25) (.tmp 26), 0, "sort.go:160", #[⟨1, .data⟩, ⟨2, .data⟩], none⟩
def bs5o4 : Oper := ⟨some 28, .load 46 (.tmp 27), 46, "sort.go:160", #[⟨3, .data⟩], none⟩
def bs5o5 : Oper := ⟨some 29, .load 81 (.tmp 4), 81, "sort.go:160", #[], none⟩
def bs5o6 : Oper := ⟨some 30, .call { callee := .value (.tmp 24), args := #[.tmp 28, .tmp 29], argTypes := #[46, 81] }, 3, "sort.go:160", #[⟨0, .data⟩, ⟨4, .data⟩, ⟨5, .data⟩], none⟩
def bs5o7 : Oper := ⟨some 31, .binOp .lss 3 (.tmp 30) (.const (.int .i64 0)) 3, 4, "sort.go:160", #[⟨6, .data⟩], none⟩
def bs5O : Array Oper := #[bs5o0, bs5o1, bs5o2, bs5o3, bs5o4, bs5o5, bs5o6, bs5o7]
structure bs5P where
 (W1 : World)
 (GA OA LA CA IX BB : Nat)
 (kA tA kP : ByteArray)
 (qA qP : Int)
 (gA : Bool)
 (s1 s3 s5 s6 s7 s8 s9 s10 s12 s13 s14 s15 s16 s17 s18 s19 s20 s21 s22 s23 s24 s25 s26 s27 s28 s29 s30 s31 s32 s33 s34 s35 s36 s37 s38 s39 s40 s41 s42 s43 s44 s45 s46 s47 s48 : Value)
def bs5T (P : bs5P) (uu : Nat) (b0 b1 b2 b3 b4 b5 b6 b7 : Bool) : Array Value := #[.slice (some ⟨P.GA, P.OA, none⟩) P.LA P.CA, P.s1, .func (.func 94) #[] #[], P.s3, .pointer (some ⟨P.BB, 0, none⟩), P.s5, P.s6, P.s7, P.s8, P.s9, P.s10, .int .i64 (P.IX : Int), P.s12, P.s13, P.s14, P.s15, P.s16, P.s17, P.s18, P.s19, P.s20, P.s21, P.s22, P.s23, sel b0 (.func (.func 94) #[] #[]) (P.s24), sel b1 (.slice (some ⟨P.GA, P.OA, none⟩) P.LA P.CA) (P.s25), sel b2 (.int .i64 (P.IX : Int)) (P.s26), sel b3 (.pointer (some ⟨P.GA, P.OA + P.IX * 4, none⟩)) (P.s27), sel b4 (.agg #[.string P.kA, .int .i64 P.qA, .bool P.gA, .string P.tA]) (P.s28), sel b5 (.agg #[.string P.kP, .int .i64 P.qP]) (P.s29), sel b6 (.int .i64 (orI (kCmp P.kA P.kP) (cmpI P.qP P.qA))) (P.s30), sel b7 (.bool (decide ((orI (kCmp P.kA P.kP) (cmpI P.qP P.qA)) < 0))) (P.s31), P.s32, P.s33, P.s34, P.s35, P.s36, P.s37, P.s38, P.s39, P.s40, P.s41, P.s42, P.s43, P.s44, P.s45, P.s46, P.s47, P.s48]
def bs5F (P : bs5P) (uu : Nat) (b0 b1 b2 b3 b4 b5 b6 b7 : Bool) (w : World) : Prop := (Below P.W1.heap.size P.W1 w) ∧ (RA P.W1 P.BB 81 #[.string P.kP, .int .i64 P.qP]) ∧ (P.W1.cell? ⟨P.GA, P.OA + P.IX * 4, none⟩ = some (.string P.kA) ∧ P.W1.cell? ⟨P.GA, P.OA + P.IX * 4 + 1, none⟩ = some (.int .i64 P.qA) ∧ P.W1.cell? ⟨P.GA, P.OA + P.IX * 4 + 2, none⟩ = some (.bool P.gA) ∧ P.W1.cell? ⟨P.GA, P.OA + P.IX * 4 + 3, none⟩ = some (.string P.tA) ∧ P.GA < P.W1.heap.size ∧ P.IX < P.LA)
def bs5I (P : bs5P) (l : Array Bool) (f : Act) (w : World) : Prop :=
 ∃ (b0 b1 b2 b3 b4 b5 b6 b7 : Bool) (uu : Nat), l = #[b0, b1, b2, b3, b4, b5, b6, b7] ∧ f = { tmps := bs5T P uu b0 b1 b2 b3 b4 b5 b6 b7, defers := [] } ∧ bs5F P uu b0 b1 b2 b3 b4 b5 b6 b7 w
theorem bs5M {P : bs5P} {b0 b1 b2 b3 b4 b5 b6 b7 : Bool} (uu : Nat) {l : Array Bool} {f : Act} {w : World} (hl : l = #[b0, b1, b2, b3, b4, b5, b6, b7]) (hf : f = { tmps := bs5T P uu b0 b1 b2 b3 b4 b5 b6 b7, defers := [] }) (h : bs5F P uu b0 b1 b2 b3 b4 b5 b6 b7 w) : bs5I P l f w := ⟨b0, b1, b2, b3, b4, b5, b6, b7, uu, hl, hf, h⟩
set_option maxRecDepth 20000 in
set_option maxHeartbeats 20000000 in
theorem bs5_step {Q : Exit → Act → World → Prop} (P : bs5P) (l : Array Bool) (f : Act) (w : World) (hC : Closed bs5O l) (hI : bs5I P l f w) (i : Nat) (h0 : l.getD i true = false) (o : Oper) (ho : bs5O[i]? = some o) (h1 : ∀ e ∈ o.after, Region.binds .any e = true → l.getD e.on false = true) : wpOp Tryz.prog bs5O Q i (bs5I P (l.setIfInBounds i true)) f w := by
 obtain ⟨b0, b1, b2, b3, b4, b5, b6, b7, uu, rfl, rfl, hF⟩ := hI
 have hi : i < 8 := by
  rcases Nat.lt_or_ge i 8 with h | h
  · exact h
  · rw [show bs5O[i]? = none from Array.getElem?_eq_none h] at ho; cases ho
 rcases (by omega : i = 0 ∨ i = 1 ∨ i = 2 ∨ i = 3 ∨ i = 4 ∨ i = 5 ∨ i = 6 ∨ i = 7) with rfl | rfl | rfl | rfl | rfl | rfl | rfl | rfl
 · obtain rfl : bs5o0 = o := Option.some.inj ho
   obtain rfl : b0 = false := h0
   have hn := wN9 hC (i := 0) rfl [(6, 0), (7, 6)] [] nk rfl; repeat (obtain ⟨rfl, hn⟩ := hn)
   obtain ⟨hb, hB, he⟩ := hF; refine wpOp_step (o := bs5o0) rfl (fun K hK => ?_); replace hK := hid hK; simp only [bs5o0, bs5T, sel_f]
   go_simp
   exact hK.out _ _ (bs5M uu rfl rfl ⟨hb, hB, he⟩)
 · obtain rfl : bs5o1 = o := Option.some.inj ho
   obtain rfl : b1 = false := h0
   have hn := wN9 hC (i := 1) rfl [(3, 1), (4, 3), (6, 4), (7, 6)] [] nk rfl; repeat (obtain ⟨rfl, hn⟩ := hn)
   obtain ⟨hb, hB, he⟩ := hF; refine wpOp_step (o := bs5o1) rfl (fun K hK => ?_); replace hK := hid hK; simp only [bs5o1, bs5T, sel_f]
   go_simp
   exact hK.out _ _ (bs5M uu rfl rfl ⟨hb, hB, he⟩)
 · obtain rfl : bs5o2 = o := Option.some.inj ho
   obtain rfl : b2 = false := h0
   have hn := wN9 hC (i := 2) rfl [(3, 2), (4, 3), (6, 4), (7, 6)] [] nk rfl; repeat (obtain ⟨rfl, hn⟩ := hn)
   obtain ⟨hb, hB, he⟩ := hF; refine wpOp_step (o := bs5o2) rfl (fun K hK => ?_); replace hK := hid hK; simp only [bs5o2, bs5T, sel_f]
   go_simp
   exact hK.out _ _ (bs5M uu rfl rfl ⟨hb, hB, he⟩)
 · obtain rfl : bs5o3 = o := Option.some.inj ho
   obtain rfl : b3 = false := h0
   have hn := wP9 (o := bs5o3) hC h1 [(2, none), (1, none)] [] nk rfl; repeat (obtain ⟨rfl, hn⟩ := hn)
   have hn := wN9 hC (i := 3) rfl [(4, 3), (6, 4), (7, 6)] [] nk rfl; repeat (obtain ⟨rfl, hn⟩ := hn)
   obtain ⟨hb, hB, he⟩ := hF; have r1 : (P.IX : Int) < (P.LA : Int) := by have := he.2.2.2.2.2; omega
   refine wpOp_step (o := bs5o3) rfl (fun K hK => ?_); replace hK := hid hK; simp only [bs5o3, bs5T, sel_t, sel_f]
   go_simp
   exact hK.out _ _ (bs5M uu rfl rfl ⟨hb, hB, he⟩)
 · obtain rfl : bs5o4 = o := Option.some.inj ho
   obtain rfl : b4 = false := h0
   have hn := wP9 (o := bs5o4) hC h1 [(3, none), (1, some 3), (2, some 3)] [] nk rfl; repeat (obtain ⟨rfl, hn⟩ := hn)
   have hn := wN9 hC (i := 4) rfl [(6, 4), (7, 6)] [] nk rfl; repeat (obtain ⟨rfl, hn⟩ := hn)
   obtain ⟨hb, hB, he⟩ := hF; obtain ⟨e0, e1, e2, e3, e4, e5⟩ := he; have he : P.W1.cell? ⟨P.GA, P.OA + P.IX * 4, none⟩ = some (.string P.kA) ∧ P.W1.cell? ⟨P.GA, P.OA + P.IX * 4 + 1, none⟩ = some (.int .i64 P.qA) ∧ P.W1.cell? ⟨P.GA, P.OA + P.IX * 4 + 2, none⟩ = some (.bool P.gA) ∧ P.W1.cell? ⟨P.GA, P.OA + P.IX * 4 + 3, none⟩ = some (.string P.tA) ∧ P.GA < P.W1.heap.size ∧ P.IX < P.LA := ⟨e0, e1, e2, e3, e4, e5⟩; have c0 := (hb.cell (p := ⟨P.GA, P.OA + P.IX * 4, none⟩) e4).trans e0; have c1 := (hb.cell (p := ⟨P.GA, P.OA + P.IX * 4 + 1, none⟩) e4).trans e1; have c2 := (hb.cell (p := ⟨P.GA, P.OA + P.IX * 4 + 2, none⟩) e4).trans e2; have c3 := (hb.cell (p := ⟨P.GA, P.OA + P.IX * 4 + 3, none⟩) e4).trans e3; refine wpOp_step (o := bs5o4) rfl (fun K hK => ?_); replace hK := hid hK; simp only [bs5o4, bs5T, sel_t, sel_f]
   go_simp
   exact hK.out _ _ (bs5M uu rfl rfl ⟨hb, hB, he⟩)
 · obtain rfl : bs5o5 = o := Option.some.inj ho
   obtain rfl : b5 = false := h0
   have hn := wN9 hC (i := 5) rfl [(6, 5), (7, 6)] [] nk rfl; repeat (obtain ⟨rfl, hn⟩ := hn)
   obtain ⟨hb, hB, he⟩ := hF; have hB2 := hB.below hb hB.lt; have c0 := hB2.cell 0; have c1 := hB2.cell 1; refine wpOp_step (o := bs5o5) rfl (fun K hK => ?_); replace hK := hid hK; simp only [bs5o5, bs5T, sel_f]
   go_simp
   exact hK.out _ _ (bs5M uu rfl rfl ⟨hb, hB, he⟩)
 · obtain rfl : bs5o6 = o := Option.some.inj ho
   obtain rfl : b6 = false := h0
   have hn := wP9 (o := bs5o6) hC h1 [(5, none), (4, none), (0, none), (3, some 4), (1, some 3), (2, some 3)] [] nk rfl; repeat (obtain ⟨rfl, hn⟩ := hn)
   have hn := wN9 hC (i := 6) rfl [(7, 6)] [] nk rfl; repeat (obtain ⟨rfl, hn⟩ := hn)
   obtain ⟨hb, hB, he⟩ := hF; refine wpOp_step (o := bs5o6) rfl (fun K hK => ?_); replace hK := hid hK; simp only [bs5o6, bs5T, sel_t, sel_f]
   go_simp
   refine (iPlF P.kA P.qA P.gA P.tA P.kP P.qP _).mono ?_
   rintro e w2 ⟨rfl, hb2⟩
   dsimp only; exact hK.out _ _ (bs5M uu rfl rfl ⟨hb.trans (hb2.mono hb.size), hB, he⟩)
 · obtain rfl : bs5o7 = o := Option.some.inj ho
   obtain rfl : b7 = false := h0
   have hn := wP9 (o := bs5o7) hC h1 [(6, none), (0, some 6), (4, some 6), (5, some 6), (3, some 4), (1, some 3), (2, some 3)] [] nk rfl; repeat (obtain ⟨rfl, hn⟩ := hn)
   obtain ⟨hb, hB, he⟩ := hF; refine wpOp_step (o := bs5o7) rfl (fun K hK => ?_); replace hK := hid hK; simp only [bs5o7, bs5T, sel_t, sel_f]
   go_simp
   exact hK.out _ _ (bs5M uu rfl rfl ⟨hb, hB, he⟩)
set_option maxRecDepth 20000 in
set_option maxHeartbeats 4000000 in
theorem bs5_wp {Q : Exit → Act → World → Prop} {rid : Nat} (W1 : World) (GA OA LA CA IX BB : Nat) (kA tA kP : ByteArray) (qA qP : Int) (gA : Bool) {s1 s3 s5 s6 s7 s8 s9 s10 s12 s13 s14 s15 s16 s17 s18 s19 s20 s21 s22 s23 s24 s25 s26 s27 s28 s29 s30 s31 s32 s33 s34 s35 s36 s37 s38 s39 s40 s41 s42 s43 s44 s45 s46 s47 s48 : Value} (w : World) (hb : Below W1.heap.size W1 w) (hB : RA W1 BB 81 #[.string kP, .int .i64 qP]) (he : W1.cell? ⟨GA, OA + IX * 4, none⟩ = some (.string kA) ∧ W1.cell? ⟨GA, OA + IX * 4 + 1, none⟩ = some (.int .i64 qA) ∧ W1.cell? ⟨GA, OA + IX * 4 + 2, none⟩ = some (.bool gA) ∧ W1.cell? ⟨GA, OA + IX * 4 + 3, none⟩ = some (.string tA) ∧ GA < W1.heap.size ∧ IX < LA)
 (fin : ∀ (uu : Nat) (w' : World), (Below W1.heap.size W1 w') → (RA W1 BB 81 #[.string kP, .int .i64 qP]) → (W1.cell? ⟨GA, OA + IX * 4, none⟩ = some (.string kA) ∧ W1.cell? ⟨GA, OA + IX * 4 + 1, none⟩ = some (.int .i64 qA) ∧ W1.cell? ⟨GA, OA + IX * 4 + 2, none⟩ = some (.bool gA) ∧ W1.cell? ⟨GA, OA + IX * 4 + 3, none⟩ = some (.string tA) ∧ GA < W1.heap.size ∧ IX < LA) → Q .normal { tmps := #[.slice (some ⟨GA, OA, none⟩) LA CA, s1, .func (.func 94) #[] #[], s3, .pointer (some ⟨BB, 0, none⟩), s5, s6, s7, s8, s9, s10, .int .i64 (IX : Int), s12, s13, s14, s15, s16, s17, s18, s19, s20, s21, s22, s23, .func (.func 94) #[] #[], .slice (some ⟨GA, OA, none⟩) LA CA, .int .i64 (IX : Int), .pointer (some ⟨GA, OA + IX * 4, none⟩), .agg #[.string kA, .int .i64 qA, .bool gA, .string tA], .agg #[.string kP, .int .i64 qP], .int .i64 (orI (kCmp kA kP) (cmpI qP qA)), .bool (decide ((orI (kCmp kA kP) (cmpI qP qA)) < 0)), s32, s33, s34, s35, s36, s37, s38, s39, s40, s41, s42, s43, s44, s45, s46, s47, s48], defers := [] } w') :
 (Code.region rid bs5O true).wp Tryz.prog Q { tmps := #[.slice (some ⟨GA, OA, none⟩) LA CA, s1, .func (.func 94) #[] #[], s3, .pointer (some ⟨BB, 0, none⟩), s5, s6, s7, s8, s9, s10, .int .i64 (IX : Int), s12, s13, s14, s15, s16, s17, s18, s19, s20, s21, s22, s23, s24, s25, s26, s27, s28, s29, s30, s31, s32, s33, s34, s35, s36, s37, s38, s39, s40, s41, s42, s43, s44, s45, s46, s47, s48], defers := [] } w := by
 refine wp_region_inv (ops := bs5O) (bs5I ⟨W1, GA, OA, LA, CA, IX, BB, kA, tA, kP, qA, qP, gA, s1, s3, s5, s6, s7, s8, s9, s10, s12, s13, s14, s15, s16, s17, s18, s19, s20, s21, s22, s23, s24, s25, s26, s27, s28, s29, s30, s31, s32, s33, s34, s35, s36, s37, s38, s39, s40, s41, s42, s43, s44, s45, s46, s47, s48⟩) (by kernel_rfl) (by kernel_rfl) (fun l f v hI => ?_) (fun l f v hC hI i h0 o ho h1 => bs5_step ⟨W1, GA, OA, LA, CA, IX, BB, kA, tA, kP, qA, qP, gA, s1, s3, s5, s6, s7, s8, s9, s10, s12, s13, s14, s15, s16, s17, s18, s19, s20, s21, s22, s23, s24, s25, s26, s27, s28, s29, s30, s31, s32, s33, s34, s35, s36, s37, s38, s39, s40, s41, s42, s43, s44, s45, s46, s47, s48⟩ l f v hC hI i h0 o ho h1) (fun l f v hI hall => ?_) ?_
 · obtain ⟨_, _, _, _, _, _, _, _, _, rfl, _⟩ := hI; rfl
 · obtain ⟨b0, b1, b2, b3, b4, b5, b6, b7, uu, rfl, rfl, hb, hB, he⟩ := hI
   have hn := allT hall [0, 1, 2, 3, 4, 5, 6, 7] rfl; repeat (obtain ⟨rfl, hn⟩ := hn)
   exact fin uu v hb hB he
 · exact ⟨false, false, false, false, false, false, false, false, 0, rfl, rfl, hb.drew, hB, he⟩
def bs8to0 : Oper := ⟨some 35, .move (.tmp 9), 3, "sort.go:167", #[], none⟩
def bs8to1 : Oper := ⟨some 36, .move (.tmp 9), 3, "sort.go:167", #[], none⟩
def bs8to2 : Oper := ⟨some 37, .move (.tmp 8), 3, "sort.go:167", #[], none⟩
def bs8to3 : Oper := ⟨some 38, .binOp .lss 3 (.tmp 36) (.tmp 37) 3, 4, "sort.go:167", #[⟨1, .data⟩, ⟨2, .data⟩], none⟩
def bs8to4 : Oper := ⟨some 39, .move (.tmp 38), 4, "sort.go:167", #[⟨3, .data⟩], none⟩
def bs8to5 : Oper := ⟨some 40, .move (.tmp 2), 138, "sort.go:167", #[⟨4, .guard⟩], some (4, true)⟩
def bs8to6 : Oper := ⟨some 41, .move (.tmp 0), 23, "sort.go:167", #[⟨4, .guard⟩], some (4, true)⟩
def bs8to7 : Oper := ⟨some 42, .move (.tmp 9), 3, "sort.go:167", #[⟨4, .guard⟩], some (4, true)⟩
def bs8to8 : Oper := ⟨some 43, .indexAddr 23 (.tmp 41) (.tmp 42), 0, "sort.go:167", #[⟨6, .data⟩, ⟨7, .data⟩, ⟨4, .guard⟩], some (4, true)⟩
def bs8to9 : Oper := ⟨some 44, .load 46 (.tmp 43), 46, "sort.go:167", #[⟨8, .data⟩, ⟨4, .guard⟩], some (4, true)⟩
def bs8to10 : Oper := ⟨some 45, .load 81 (.tmp 4), 81, "sort.go:167", #[⟨4, .guard⟩], some (4, true)⟩
def bs8to11 : Oper := ⟨some 46, .call { callee := .value (.tmp 40), args := #[.tmp 44, .tmp 45], argTypes := #[46, 81] }, 3, "sort.go:167", #[⟨5, .data⟩, ⟨9, .data⟩, ⟨10, .data⟩, ⟨4, .chain⟩, ⟨4, .guard⟩], some (4, true)⟩
def bs8to12 : Oper := ⟨some 47, .binOp .eql 3 (.tmp 46) (.const (.int .i64 0)) 3, 4, "sort.go:167", #[⟨11, .data⟩, ⟨4, .guard⟩, ⟨14, .gcOnly .lateStores⟩], some (4, true)⟩
def bs8to13 : Oper := ⟨some 48, .pick (.tmp 39) (.tmp 47) (.const (.bool false)), 4, "sort.go:167", #[⟨4, .data⟩, ⟨12, .data⟩, ⟨14, .gcOnly .lateStores⟩], none⟩
def bs8to14 : Oper := ⟨some 6, .assign (.tmp 35), 3, "sort.go:167", #[⟨0, .data⟩, ⟨11, .chain⟩, ⟨0, .phase⟩, ⟨1, .textOnly .lateStores⟩, ⟨2, .textOnly .lateStores⟩, ⟨3, .textOnly .lateStores⟩, ⟨4, .textOnly .lateStores⟩, ⟨5, .textOnly .lateStores⟩, ⟨6, .textOnly .lateStores⟩, ⟨7, .textOnly .lateStores⟩, ⟨8, .textOnly .lateStores⟩, ⟨9, .textOnly .lateStores⟩, ⟨10, .textOnly .lateStores⟩, ⟨11, .textOnly .lateStoresUnsure⟩, ⟨12, .textOnly .lateStores⟩, ⟨13, .textOnly .lateStores⟩], none⟩
def bs8to15 : Oper := ⟨some 7, .assign (.tmp 48), 4, "sort.go:167", #[⟨13, .data⟩, ⟨14, .chain⟩, ⟨0, .phase⟩, ⟨1, .phase⟩, ⟨2, .phase⟩, ⟨3, .phase⟩, ⟨4, .phase⟩, ⟨5, .phase⟩, ⟨6, .phase⟩, ⟨7, .phase⟩, ⟨8, .phase⟩, ⟨9, .phase⟩, ⟨10, .phase⟩, ⟨11, .phase⟩, ⟨12, .phase⟩, ⟨13, .phase⟩, ⟨14, .phase⟩], none⟩
def bs8tO : Array Oper := #[bs8to0, bs8to1, bs8to2, bs8to3, bs8to4, bs8to5, bs8to6, bs8to7, bs8to8, bs8to9, bs8to10, bs8to11, bs8to12, bs8to13, bs8to14, bs8to15]
structure bs8tP where
 (W1 : World)
 (GA OA LA CA IX BB : Nat)
 (kA tA kP : ByteArray)
 (qA qP : Int)
 (gA : Bool)
 (s1 s3 s5 s6 s7 s10 s11 s12 s13 s14 s15 s16 s17 s18 s19 s20 s21 s22 s23 s24 s25 s26 s27 s28 s29 s30 s31 s32 s33 s34 s35 s36 s37 s38 s39 s40 s41 s42 s43 s44 s45 s46 s47 s48 : Value)
def bs8tT (P : bs8tP) (uu : Nat) (b0 b1 b2 b3 b4 b5 b6 b7 b8 b9 b10 b11 b12 b13 b14 b15 : Bool) : Array Value := #[.slice (some ⟨P.GA, P.OA, none⟩) P.LA P.CA, P.s1, .func (.func 94) #[] #[], P.s3, .pointer (some ⟨P.BB, 0, none⟩), P.s5, sel b14 (.int .i64 (P.IX : Int)) (P.s6), sel b15 (.bool ((orI (kCmp P.kA P.kP) (cmpI P.qP P.qA)) == 0)) (P.s7), .int .i64 (P.LA : Int), .int .i64 (P.IX : Int), P.s10, P.s11, P.s12, P.s13, P.s14, P.s15, P.s16, P.s17, P.s18, P.s19, P.s20, P.s21, P.s22, P.s23, P.s24, P.s25, P.s26, P.s27, P.s28, P.s29, P.s30, P.s31, P.s32, P.s33, P.s34, sel b0 (.int .i64 (P.IX : Int)) (P.s35), sel b1 (.int .i64 (P.IX : Int)) (P.s36), sel b2 (.int .i64 (P.LA : Int)) (P.s37), sel b3 (.bool true) (P.s38), sel b4 (.bool true) (P.s39), sel b5 (.func (.func 94) #[] #[]) (P.s40), sel b6 (.slice (some ⟨P.GA, P.OA, none⟩) P.LA P.CA) (P.s41), sel b7 (.int .i64 (P.IX : Int)) (P.s42), sel b8 (.pointer (some ⟨P.GA, P.OA + P.IX * 4, none⟩)) (P.s43), sel b9 (.agg #[.string P.kA, .int .i64 P.qA, .bool P.gA, .string P.tA]) (P.s44), sel b10 (.agg #[.string P.kP, .int .i64 P.qP]) (P.s45), sel b11 (.int .i64 (orI (kCmp P.kA P.kP) (cmpI P.qP P.qA))) (P.s46), sel b12 (.bool ((orI (kCmp P.kA P.kP) (cmpI P.qP P.qA)) == 0)) (P.s47), sel b13 (.bool ((orI (kCmp P.kA P.kP) (cmpI P.qP P.qA)) == 0)) (P.s48)]
def bs8tF (P : bs8tP) (uu : Nat) (b0 b1 b2 b3 b4 b5 b6 b7 b8 b9 b10 b11 b12 b13 b14 b15 : Bool) (w : World) : Prop := (Below P.W1.heap.size P.W1 w) ∧ (RA P.W1 P.BB 81 #[.string P.kP, .int .i64 P.qP]) ∧ (P.W1.cell? ⟨P.GA, P.OA + P.IX * 4, none⟩ = some (.string P.kA) ∧ P.W1.cell? ⟨P.GA, P.OA + P.IX * 4 + 1, none⟩ = some (.int .i64 P.qA) ∧ P.W1.cell? ⟨P.GA, P.OA + P.IX * 4 + 2, none⟩ = some (.bool P.gA) ∧ P.W1.cell? ⟨P.GA, P.OA + P.IX * 4 + 3, none⟩ = some (.string P.tA) ∧ P.GA < P.W1.heap.size ∧ P.IX < P.LA)
def bs8tI (P : bs8tP) (l : Array Bool) (f : Act) (w : World) : Prop :=
 ∃ (b0 b1 b2 b3 b4 b5 b6 b7 b8 b9 b10 b11 b12 b13 b14 b15 : Bool) (uu : Nat), l = #[b0, b1, b2, b3, b4, b5, b6, b7, b8, b9, b10, b11, b12, b13, b14, b15] ∧ f = { tmps := bs8tT P uu b0 b1 b2 b3 b4 b5 b6 b7 b8 b9 b10 b11 b12 b13 b14 b15, defers := [] } ∧ bs8tF P uu b0 b1 b2 b3 b4 b5 b6 b7 b8 b9 b10 b11 b12 b13 b14 b15 w
theorem bs8tM {P : bs8tP} {b0 b1 b2 b3 b4 b5 b6 b7 b8 b9 b10 b11 b12 b13 b14 b15 : Bool} (uu : Nat) {l : Array Bool} {f : Act} {w : World} (hl : l = #[b0, b1, b2, b3, b4, b5, b6, b7, b8, b9, b10, b11, b12, b13, b14, b15]) (hf : f = { tmps := bs8tT P uu b0 b1 b2 b3 b4 b5 b6 b7 b8 b9 b10 b11 b12 b13 b14 b15, defers := [] }) (h : bs8tF P uu b0 b1 b2 b3 b4 b5 b6 b7 b8 b9 b10 b11 b12 b13 b14 b15 w) : bs8tI P l f w := ⟨b0, b1, b2, b3, b4, b5, b6, b7, b8, b9, b10, b11, b12, b13, b14, b15, uu, hl, hf, h⟩
set_option maxRecDepth 20000 in
set_option maxHeartbeats 20000000 in
theorem bs8t_step {Q : Exit → Act → World → Prop} (P : bs8tP) (l : Array Bool) (f : Act) (w : World) (hC : Closed bs8tO l) (hI : bs8tI P l f w) (i : Nat) (h0 : l.getD i true = false) (o : Oper) (ho : bs8tO[i]? = some o) (h1 : ∀ e ∈ o.after, Region.binds .any e = true → l.getD e.on false = true) : wpOp Tryz.prog bs8tO Q i (bs8tI P (l.setIfInBounds i true)) f w := by
 obtain ⟨b0, b1, b2, b3, b4, b5, b6, b7, b8, b9, b10, b11, b12, b13, b14, b15, uu, rfl, rfl, hF⟩ := hI
 have hi : i < 16 := by
  rcases Nat.lt_or_ge i 16 with h | h
  · exact h
  · rw [show bs8tO[i]? = none from Array.getElem?_eq_none h] at ho; cases ho
 rcases (by omega : i = 0 ∨ i = 1 ∨ i = 2 ∨ i = 3 ∨ i = 4 ∨ i = 5 ∨ i = 6 ∨ i = 7 ∨ i = 8 ∨ i = 9 ∨ i = 10 ∨ i = 11 ∨ i = 12 ∨ i = 13 ∨ i = 14 ∨ i = 15) with rfl | rfl | rfl | rfl | rfl | rfl | rfl | rfl | rfl | rfl | rfl | rfl | rfl | rfl | rfl | rfl
 · obtain rfl : bs8to0 = o := Option.some.inj ho
   obtain rfl : b0 = false := h0
   have hn := wN9 hC (i := 0) rfl [(14, 0), (15, 0)] [] nk rfl; repeat (obtain ⟨rfl, hn⟩ := hn)
   obtain ⟨hb, hB, he⟩ := hF; refine wpOp_step (o := bs8to0) rfl (fun K hK => ?_); replace hK := hid hK; simp only [bs8to0, bs8tT, sel_f]
   go_simp
   exact hK.out _ _ (bs8tM uu rfl rfl ⟨hb, hB, he⟩)
 · obtain rfl : bs8to1 = o := Option.some.inj ho
   obtain rfl : b1 = false := h0
   have hn := wN9 hC (i := 1) rfl [(3, 1), (4, 3), (5, 4), (6, 4), (7, 4), (8, 4), (9, 4), (10, 4), (11, 4), (12, 4), (13, 4), (14, 11), (15, 1)] [] nk rfl; repeat (obtain ⟨rfl, hn⟩ := hn)
   obtain ⟨hb, hB, he⟩ := hF; refine wpOp_step (o := bs8to1) rfl (fun K hK => ?_); replace hK := hid hK; simp only [bs8to1, bs8tT, sel_f]
   go_simp
   exact hK.out _ _ (bs8tM uu rfl rfl ⟨hb, hB, he⟩)
 · obtain rfl : bs8to2 = o := Option.some.inj ho
   obtain rfl : b2 = false := h0
   have hn := wN9 hC (i := 2) rfl [(3, 2), (4, 3), (5, 4), (6, 4), (7, 4), (8, 4), (9, 4), (10, 4), (11, 4), (12, 4), (13, 4), (14, 11), (15, 2)] [] nk rfl; repeat (obtain ⟨rfl, hn⟩ := hn)
   obtain ⟨hb, hB, he⟩ := hF; refine wpOp_step (o := bs8to2) rfl (fun K hK => ?_); replace hK := hid hK; simp only [bs8to2, bs8tT, sel_f]
   go_simp
   exact hK.out _ _ (bs8tM uu rfl rfl ⟨hb, hB, he⟩)
 · obtain rfl : bs8to3 = o := Option.some.inj ho
   obtain rfl : b3 = false := h0
   have hn := wP9 (o := bs8to3) hC h1 [(2, none), (1, none)] [] nk rfl; repeat (obtain ⟨rfl, hn⟩ := hn)
   have hn := wN9 hC (i := 3) rfl [(4, 3), (5, 4), (6, 4), (7, 4), (8, 4), (9, 4), (10, 4), (11, 4), (12, 4), (13, 4), (14, 11), (15, 3)] [] nk rfl; repeat (obtain ⟨rfl, hn⟩ := hn)
   obtain ⟨hb, hB, he⟩ := hF; have r1 : (P.IX : Int) < (P.LA : Int) := by have := he.2.2.2.2.2; omega
   refine wpOp_step (o := bs8to3) rfl (fun K hK => ?_); replace hK := hid hK; simp only [bs8to3, bs8tT, sel_t, sel_f]
   go_simp
   exact hK.out _ _ (bs8tM uu rfl rfl ⟨hb, hB, he⟩)
 · obtain rfl : bs8to4 = o := Option.some.inj ho
   obtain rfl : b4 = false := h0
   have hn := wP9 (o := bs8to4) hC h1 [(3, none), (1, some 3), (2, some 3)] [] nk rfl; repeat (obtain ⟨rfl, hn⟩ := hn)
   have hn := wN9 hC (i := 4) rfl [(5, 4), (6, 4), (7, 4), (8, 4), (9, 4), (10, 4), (11, 4), (12, 4), (13, 4), (14, 11), (15, 4)] [] nk rfl; repeat (obtain ⟨rfl, hn⟩ := hn)
   obtain ⟨hb, hB, he⟩ := hF; refine wpOp_step (o := bs8to4) rfl (fun K hK => ?_); replace hK := hid hK; simp only [bs8to4, bs8tT, sel_t, sel_f]
   go_simp
   exact hK.out _ _ (bs8tM uu rfl rfl ⟨hb, hB, he⟩)
 · obtain rfl : bs8to5 = o := Option.some.inj ho
   obtain rfl : b5 = false := h0
   have hn := wP9 (o := bs8to5) hC h1 [(4, none), (3, some 4), (1, some 3), (2, some 3)] [] nk rfl; repeat (obtain ⟨rfl, hn⟩ := hn)
   have hn := wN9 hC (i := 5) rfl [(11, 5), (12, 11), (13, 12), (14, 11), (15, 5)] [] nk rfl; repeat (obtain ⟨rfl, hn⟩ := hn)
   obtain ⟨hb, hB, he⟩ := hF; refine wpOp_step (o := bs8to5) rfl (fun K hK => ?_); replace hK := hid hK; simp only [bs8to5, bs8tT, sel_t, sel_f]
   go_simp
   exact hK.out _ _ (bs8tM uu rfl rfl ⟨hb, hB, he⟩)
 · obtain rfl : bs8to6 = o := Option.some.inj ho
   obtain rfl : b6 = false := h0
   have hn := wP9 (o := bs8to6) hC h1 [(4, none), (3, some 4), (1, some 3), (2, some 3)] [] nk rfl; repeat (obtain ⟨rfl, hn⟩ := hn)
   have hn := wN9 hC (i := 6) rfl [(8, 6), (9, 8), (11, 9), (12, 11), (13, 12), (14, 11), (15, 6)] [] nk rfl; repeat (obtain ⟨rfl, hn⟩ := hn)
   obtain ⟨hb, hB, he⟩ := hF; refine wpOp_step (o := bs8to6) rfl (fun K hK => ?_); replace hK := hid hK; simp only [bs8to6, bs8tT, sel_t, sel_f]
   go_simp
   exact hK.out _ _ (bs8tM uu rfl rfl ⟨hb, hB, he⟩)
 · obtain rfl : bs8to7 = o := Option.some.inj ho
   obtain rfl : b7 = false := h0
   have hn := wP9 (o := bs8to7) hC h1 [(4, none), (3, some 4), (1, some 3), (2, some 3)] [] nk rfl; repeat (obtain ⟨rfl, hn⟩ := hn)
   have hn := wN9 hC (i := 7) rfl [(8, 7), (9, 8), (11, 9), (12, 11), (13, 12), (14, 11), (15, 7)] [] nk rfl; repeat (obtain ⟨rfl, hn⟩ := hn)
   obtain ⟨hb, hB, he⟩ := hF; refine wpOp_step (o := bs8to7) rfl (fun K hK => ?_); replace hK := hid hK; simp only [bs8to7, bs8tT, sel_t, sel_f]
   go_simp
   exact hK.out _ _ (bs8tM uu rfl rfl ⟨hb, hB, he⟩)
 · obtain rfl : bs8to8 = o := Option.some.inj ho
   obtain rfl : b8 = false := h0
   have hn := wP9 (o := bs8to8) hC h1 [(7, none), (6, none), (4, none), (3, some 4), (1, some 3), (2, some 3)] [] nk rfl; repeat (obtain ⟨rfl, hn⟩ := hn)
   have hn := wN9 hC (i := 8) rfl [(9, 8), (11, 9), (12, 11), (13, 12), (14, 11), (15, 8)] [] nk rfl; repeat (obtain ⟨rfl, hn⟩ := hn)
   obtain ⟨hb, hB, he⟩ := hF; have r1 : (P.IX : Int) < (P.LA : Int) := by have := he.2.2.2.2.2; omega
   refine wpOp_step (o := bs8to8) rfl (fun K hK => ?_); replace hK := hid hK; simp only [bs8to8, bs8tT, sel_t, sel_f]
   go_simp
   exact hK.out _ _ (bs8tM uu rfl rfl ⟨hb, hB, he⟩)
 · obtain rfl : bs8to9 = o := Option.some.inj ho
   obtain rfl : b9 = false := h0
   have hn := wP9 (o := bs8to9) hC h1 [(8, none), (4, none), (6, some 8), (7, some 8), (3, some 4), (1, some 3), (2, some 3)] [] nk rfl; repeat (obtain ⟨rfl, hn⟩ := hn)
   have hn := wN9 hC (i := 9) rfl [(11, 9), (12, 11), (13, 12), (14, 11), (15, 9)] [] nk rfl; repeat (obtain ⟨rfl, hn⟩ := hn)
   obtain ⟨hb, hB, he⟩ := hF; obtain ⟨e0, e1, e2, e3, e4, e5⟩ := he; have he : P.W1.cell? ⟨P.GA, P.OA + P.IX * 4, none⟩ = some (.string P.kA) ∧ P.W1.cell? ⟨P.GA, P.OA + P.IX * 4 + 1, none⟩ = some (.int .i64 P.qA) ∧ P.W1.cell? ⟨P.GA, P.OA + P.IX * 4 + 2, none⟩ = some (.bool P.gA) ∧ P.W1.cell? ⟨P.GA, P.OA + P.IX * 4 + 3, none⟩ = some (.string P.tA) ∧ P.GA < P.W1.heap.size ∧ P.IX < P.LA := ⟨e0, e1, e2, e3, e4, e5⟩; have c0 := (hb.cell (p := ⟨P.GA, P.OA + P.IX * 4, none⟩) e4).trans e0; have c1 := (hb.cell (p := ⟨P.GA, P.OA + P.IX * 4 + 1, none⟩) e4).trans e1; have c2 := (hb.cell (p := ⟨P.GA, P.OA + P.IX * 4 + 2, none⟩) e4).trans e2; have c3 := (hb.cell (p := ⟨P.GA, P.OA + P.IX * 4 + 3, none⟩) e4).trans e3; refine wpOp_step (o := bs8to9) rfl (fun K hK => ?_); replace hK := hid hK; simp only [bs8to9, bs8tT, sel_t, sel_f]
   go_simp
   exact hK.out _ _ (bs8tM uu rfl rfl ⟨hb, hB, he⟩)
 · obtain rfl : bs8to10 = o := Option.some.inj ho
   obtain rfl : b10 = false := h0
   have hn := wP9 (o := bs8to10) hC h1 [(4, none), (3, some 4), (1, some 3), (2, some 3)] [] nk rfl; repeat (obtain ⟨rfl, hn⟩ := hn)
   have hn := wN9 hC (i := 10) rfl [(11, 10), (12, 11), (13, 12), (14, 11), (15, 10)] [] nk rfl; repeat (obtain ⟨rfl, hn⟩ := hn)
   obtain ⟨hb, hB, he⟩ := hF; have hB2 := hB.below hb hB.lt; have c0 := hB2.cell 0; have c1 := hB2.cell 1; refine wpOp_step (o := bs8to10) rfl (fun K hK => ?_); replace hK := hid hK; simp only [bs8to10, bs8tT, sel_t, sel_f]
   go_simp
   exact hK.out _ _ (bs8tM uu rfl rfl ⟨hb, hB, he⟩)
 · obtain rfl : bs8to11 = o := Option.some.inj ho
   obtain rfl : b11 = false := h0
   have hn := wP9 (o := bs8to11) hC h1 [(10, none), (9, none), (5, none), (4, none), (8, some 9), (6, some 8), (7, some 8), (3, some 4), (1, some 3), (2, some 3)] [] nk rfl; repeat (obtain ⟨rfl, hn⟩ := hn)
   have hn := wN9 hC (i := 11) rfl [(12, 11), (13, 12), (14, 11), (15, 11)] [] nk rfl; repeat (obtain ⟨rfl, hn⟩ := hn)
   obtain ⟨hb, hB, he⟩ := hF; refine wpOp_step (o := bs8to11) rfl (fun K hK => ?_); replace hK := hid hK; simp only [bs8to11, bs8tT, sel_t, sel_f]
   go_simp
   refine (iPlF P.kA P.qA P.gA P.tA P.kP P.qP _).mono ?_
   rintro e w2 ⟨rfl, hb2⟩
   dsimp only; exact hK.out _ _ (bs8tM uu rfl rfl ⟨hb.trans (hb2.mono hb.size), hB, he⟩)
 · obtain rfl : bs8to12 = o := Option.some.inj ho
   obtain rfl : b12 = false := h0
   have hn := wP9 (o := bs8to12) hC h1 [(11, none), (4, none), (5, some 11), (9, some 11), (10, some 11), (8, some 9), (6, some 8), (7, some 8), (3, some 4), (1, some 3), (2, some 3)] [] nk rfl; repeat (obtain ⟨rfl, hn⟩ := hn)
   have hn := wN9 hC (i := 12) rfl [(13, 12), (15, 12)] [] nk rfl; repeat (obtain ⟨rfl, hn⟩ := hn)
   obtain ⟨hb, hB, he⟩ := hF; refine wpOp_step (o := bs8to12) rfl (fun K hK => ?_); replace hK := hid hK; simp only [bs8to12, bs8tT, sel_t, sel_f]
   go_simp
   exact hK.out _ _ (bs8tM uu rfl rfl ⟨hb, hB, he⟩)
 · obtain rfl : bs8to13 = o := Option.some.inj ho
   obtain rfl : b13 = false := h0
   have hn := wP9 (o := bs8to13) hC h1 [(12, none), (4, none), (11, some 12), (5, some 11), (9, some 11), (10, some 11), (8, some 9), (6, some 8), (7, some 8), (3, some 4), (1, some 3), (2, some 3)] [] nk rfl; repeat (obtain ⟨rfl, hn⟩ := hn)
   have hn := wN9 hC (i := 13) rfl [(15, 13)] [] nk rfl; repeat (obtain ⟨rfl, hn⟩ := hn)
   obtain ⟨hb, hB, he⟩ := hF; refine wpOp_step (o := bs8to13) rfl (fun K hK => ?_); replace hK := hid hK; simp only [bs8to13, bs8tT, sel_t, sel_f]
   go_simp
   exact hK.out _ _ (bs8tM uu rfl rfl ⟨hb, hB, he⟩)
 · obtain rfl : bs8to14 = o := Option.some.inj ho
   obtain rfl : b14 = false := h0
   have hn := wP9 (o := bs8to14) hC h1 [(11, none), (0, none), (4, some 11), (5, some 11), (9, some 11), (10, some 11), (8, some 9), (6, some 8), (7, some 8), (3, some 4), (1, some 3), (2, some 3)] [] nk rfl; repeat (obtain ⟨rfl, hn⟩ := hn)
   have hn := wN9 hC (i := 14) rfl [(15, 14)] [] nk rfl; repeat (obtain ⟨rfl, hn⟩ := hn)
   obtain ⟨hb, hB, he⟩ := hF; refine wpOp_step (o := bs8to14) rfl (fun K hK => ?_); replace hK := hid hK; simp only [bs8to14, bs8tT, sel_t, sel_f]
   go_simp
   exact hK.out _ _ (bs8tM uu rfl rfl ⟨hb, hB, he⟩)
 · obtain rfl : bs8to15 = o := Option.some.inj ho
   obtain rfl : b15 = false := h0
   have hn := wP9 (o := bs8to15) hC h1 [(14, none), (13, none), (12, none), (11, none), (10, none), (9, none), (8, none), (7, none), (6, none), (5, none), (4, none), (3, none), (2, none), (1, none), (0, none)] [] nk rfl; repeat (obtain ⟨rfl, hn⟩ := hn)
   obtain ⟨hb, hB, he⟩ := hF; refine wpOp_step (o := bs8to15) rfl (fun K hK => ?_); replace hK := hid hK; simp only [bs8to15, bs8tT, sel_t, sel_f]
   go_simp
   exact hK.out _ _ (bs8tM uu rfl rfl ⟨hb, hB, he⟩)
set_option maxRecDepth 20000 in
set_option maxHeartbeats 4000000 in
theorem bs8t_wp {Q : Exit → Act → World → Prop} {rid : Nat} (W1 : World) (GA OA LA CA IX BB : Nat) (kA tA kP : ByteArray) (qA qP : Int) (gA : Bool) {s1 s3 s5 s6 s7 s10 s11 s12 s13 s14 s15 s16 s17 s18 s19 s20 s21 s22 s23 s24 s25 s26 s27 s28 s29 s30 s31 s32 s33 s34 s35 s36 s37 s38 s39 s40 s41 s42 s43 s44 s45 s46 s47 s48 : Value} (w : World) (hb : Below W1.heap.size W1 w) (hB : RA W1 BB 81 #[.string kP, .int .i64 qP]) (he : W1.cell? ⟨GA, OA + IX * 4, none⟩ = some (.string kA) ∧ W1.cell? ⟨GA, OA + IX * 4 + 1, none⟩ = some (.int .i64 qA) ∧ W1.cell? ⟨GA, OA + IX * 4 + 2, none⟩ = some (.bool gA) ∧ W1.cell? ⟨GA, OA + IX * 4 + 3, none⟩ = some (.string tA) ∧ GA < W1.heap.size ∧ IX < LA)
 (fin : ∀ (uu : Nat) (w' : World), (Below W1.heap.size W1 w') → (RA W1 BB 81 #[.string kP, .int .i64 qP]) → (W1.cell? ⟨GA, OA + IX * 4, none⟩ = some (.string kA) ∧ W1.cell? ⟨GA, OA + IX * 4 + 1, none⟩ = some (.int .i64 qA) ∧ W1.cell? ⟨GA, OA + IX * 4 + 2, none⟩ = some (.bool gA) ∧ W1.cell? ⟨GA, OA + IX * 4 + 3, none⟩ = some (.string tA) ∧ GA < W1.heap.size ∧ IX < LA) → Q .normal { tmps := #[.slice (some ⟨GA, OA, none⟩) LA CA, s1, .func (.func 94) #[] #[], s3, .pointer (some ⟨BB, 0, none⟩), s5, .int .i64 (IX : Int), .bool ((orI (kCmp kA kP) (cmpI qP qA)) == 0), .int .i64 (LA : Int), .int .i64 (IX : Int), s10, s11, s12, s13, s14, s15, s16, s17, s18, s19, s20, s21, s22, s23, s24, s25, s26, s27, s28, s29, s30, s31, s32, s33, s34, .int .i64 (IX : Int), .int .i64 (IX : Int), .int .i64 (LA : Int), .bool true, .bool true, .func (.func 94) #[] #[], .slice (some ⟨GA, OA, none⟩) LA CA, .int .i64 (IX : Int), .pointer (some ⟨GA, OA + IX * 4, none⟩), .agg #[.string kA, .int .i64 qA, .bool gA, .string tA], .agg #[.string kP, .int .i64 qP], .int .i64 (orI (kCmp kA kP) (cmpI qP qA)), .bool ((orI (kCmp kA kP) (cmpI qP qA)) == 0), .bool ((orI (kCmp kA kP) (cmpI qP qA)) == 0)], defers := [] } w') :
 (Code.region rid bs8tO true).wp Tryz.prog Q { tmps := #[.slice (some ⟨GA, OA, none⟩) LA CA, s1, .func (.func 94) #[] #[], s3, .pointer (some ⟨BB, 0, none⟩), s5, s6, s7, .int .i64 (LA : Int), .int .i64 (IX : Int), s10, s11, s12, s13, s14, s15, s16, s17, s18, s19, s20, s21, s22, s23, s24, s25, s26, s27, s28, s29, s30, s31, s32, s33, s34, s35, s36, s37, s38, s39, s40, s41, s42, s43, s44, s45, s46, s47, s48], defers := [] } w := by
 refine wp_region_invG (ops := bs8tO) (bs8tI ⟨W1, GA, OA, LA, CA, IX, BB, kA, tA, kP, qA, qP, gA, s1, s3, s5, s6, s7, s10, s11, s12, s13, s14, s15, s16, s17, s18, s19, s20, s21, s22, s23, s24, s25, s26, s27, s28, s29, s30, s31, s32, s33, s34, s35, s36, s37, s38, s39, s40, s41, s42, s43, s44, s45, s46, s47, s48⟩) (by kernel_rfl) (by kernel_rfl) (fun l f v hI => ?_) (fun l f v hC hI i h0 o ho h1 => bs8t_step ⟨W1, GA, OA, LA, CA, IX, BB, kA, tA, kP, qA, qP, gA, s1, s3, s5, s6, s7, s10, s11, s12, s13, s14, s15, s16, s17, s18, s19, s20, s21, s22, s23, s24, s25, s26, s27, s28, s29, s30, s31, s32, s33, s34, s35, s36, s37, s38, s39, s40, s41, s42, s43, s44, s45, s46, s47, s48⟩ l f v hC hI i h0 o ho h1) (fun l f v hI hall => ?_) ?_
 · obtain ⟨_, _, _, _, _, _, _, _, _, _, _, _, _, _, _, _, _, rfl, _⟩ := hI; rfl
 · obtain ⟨b0, b1, b2, b3, b4, b5, b6, b7, b8, b9, b10, b11, b12, b13, b14, b15, uu, rfl, rfl, hb, hB, he⟩ := hI
   have hn := allT hall [0, 1, 2, 3, 4, 5, 6, 7, 8, 9, 10, 11, 12, 13, 14, 15] rfl; repeat (obtain ⟨rfl, hn⟩ := hn)
   exact fin uu v hb hB he
 · exact ⟨false, false, false, false, false, false, false, false, false, false, false, false, false, false, false, false, 0, rfl, rfl, hb.drew, hB, he⟩
def bs8fo0 : Oper := ⟨some 35, .move (.tmp 9), 3, "sort.go:167", #[], none⟩
def bs8fo1 : Oper := ⟨some 36, .move (.tmp 9), 3, "sort.go:167", #[], none⟩
def bs8fo2 : Oper := ⟨some 37, .move (.tmp 8), 3, "sort.go:167", #[], none⟩
def bs8fo3 : Oper := ⟨some 38, .binOp .lss 3 (.tmp 36) (.tmp 37) 3, 4, "sort.go:167", #[⟨1, .data⟩, ⟨2, .data⟩], none⟩
def bs8fo4 : Oper := ⟨some 39, .move (.tmp 38), 4, "sort.go:167", #[⟨3, .data⟩], none⟩
def bs8fo5 : Oper := ⟨some 40, .move (.tmp 2), 138, "sort.go:167", #[⟨4, .guard⟩], some (4, true)⟩
def bs8fo6 : Oper := ⟨some 41, .move (.tmp 0), 23, "sort.go:167", #[⟨4, .guard⟩], some (4, true)⟩
def bs8fo7 : Oper := ⟨some 42, .move (.tmp 9), 3, "sort.go:167", #[⟨4, .guard⟩], some (4, true)⟩
def bs8fo8 : Oper := ⟨some 43, .indexAddr 23 (.tmp 41) (.tmp 42), 0, "sort.go:167", #[⟨6, .data⟩, ⟨7, .data⟩, ⟨4, .guard⟩], some (4, true)⟩
def bs8fo9 : Oper := ⟨some 44, .load 46 (.tmp 43), 46, "sort.go:167", #[⟨8, .data⟩, ⟨4, .guard⟩], some (4, true)⟩
def bs8fo10 : Oper := ⟨some 45, .load 81 (.tmp 4), 81, "sort.go:167", #[⟨4, .guard⟩], some (4, true)⟩
def bs8fo11 : Oper := ⟨some 46, .call { callee := .value (.tmp 40), args := #[.tmp 44, .tmp 45], argTypes := #[46, 81] }, 3, "sort.go:167", #[⟨5, .data⟩, ⟨9, .data⟩, ⟨10, .data⟩, ⟨4, .chain⟩, ⟨4, .guard⟩], some (4, true)⟩
def bs8fo12 : Oper := ⟨some 47, .binOp .eql 3 (.tmp 46) (.const (.int .i64 0)) 3, 4, "sort.go:167", #[⟨11, .data⟩, ⟨4, .guard⟩, ⟨14, .gcOnly .lateStores⟩], some (4, true)⟩
def bs8fo13 : Oper := ⟨some 48, .pick (.tmp 39) (.tmp 47) (.const (.bool false)), 4, "sort.go:167", #[⟨4, .data⟩, ⟨12, .data⟩, ⟨14, .gcOnly .lateStores⟩], none⟩
def bs8fo14 : Oper := ⟨some 6, .assign (.tmp 35), 3, "sort.go:167", #[⟨0, .data⟩, ⟨11, .chain⟩, ⟨0, .phase⟩, ⟨1, .textOnly .lateStores⟩, ⟨2, .textOnly .lateStores⟩, ⟨3, .textOnly .lateStores⟩, ⟨4, .textOnly .lateStores⟩, ⟨5, .textOnly .lateStores⟩, ⟨6, .textOnly .lateStores⟩, ⟨7, .textOnly .lateStores⟩, ⟨8, .textOnly .lateStores⟩, ⟨9, .textOnly .lateStores⟩, ⟨10, .textOnly .lateStores⟩, ⟨11, .textOnly .lateStoresUnsure⟩, ⟨12, .textOnly .lateStores⟩, ⟨13, .textOnly .lateStores⟩], none⟩
def bs8fo15 : Oper := ⟨some 7, .assign (.tmp 48), 4, "sort.go:167", #[⟨13, .data⟩, ⟨14, .chain⟩, ⟨0, .phase⟩, ⟨1, .phase⟩, ⟨2, .phase⟩, ⟨3, .phase⟩, ⟨4, .phase⟩, ⟨5, .phase⟩, ⟨6, .phase⟩, ⟨7, .phase⟩, ⟨8, .phase⟩, ⟨9, .phase⟩, ⟨10, .phase⟩, ⟨11, .phase⟩, ⟨12, .phase⟩, ⟨13, .phase⟩, ⟨14, .phase⟩], none⟩
def bs8fO : Array Oper := #[bs8fo0, bs8fo1, bs8fo2, bs8fo3, bs8fo4, bs8fo5, bs8fo6, bs8fo7, bs8fo8, bs8fo9, bs8fo10, bs8fo11, bs8fo12, bs8fo13, bs8fo14, bs8fo15]
structure bs8fP where
 (W1 : World)
 (GA OA LA CA IX BB : Nat)
 (kA tA kP : ByteArray)
 (qA qP : Int)
 (gA : Bool)
 (s0 s1 s3 s5 s6 s7 s10 s11 s12 s13 s14 s15 s16 s17 s18 s19 s20 s21 s22 s23 s24 s25 s26 s27 s28 s29 s30 s31 s32 s33 s34 s35 s36 s37 s38 s39 s40 s41 s42 s43 s44 s45 s46 s47 s48 : Value)
def bs8fT (P : bs8fP) (uu : Nat) (b0 b1 b2 b3 b4 b5 b6 b7 b8 b9 b10 b11 b12 b13 b14 b15 : Bool) : Array Value := #[P.s0, P.s1, .func (.func 94) #[] #[], P.s3, .pointer (some ⟨P.BB, 0, none⟩), P.s5, sel b14 (.int .i64 (P.IX : Int)) (P.s6), sel b15 (.bool false) (P.s7), .int .i64 (P.LA : Int), .int .i64 (P.IX : Int), P.s10, P.s11, P.s12, P.s13, P.s14, P.s15, P.s16, P.s17, P.s18, P.s19, P.s20, P.s21, P.s22, P.s23, P.s24, P.s25, P.s26, P.s27, P.s28, P.s29, P.s30, P.s31, P.s32, P.s33, P.s34, sel b0 (.int .i64 (P.IX : Int)) (P.s35), sel b1 (.int .i64 (P.IX : Int)) (P.s36), sel b2 (.int .i64 (P.LA : Int)) (P.s37), sel b3 (.bool false) (P.s38), sel b4 (.bool false) (P.s39), sel b5 (undef) (P.s40), sel b6 (undef) (P.s41), sel b7 (undef) (P.s42), sel b8 (undef) (P.s43), sel b9 (undef) (P.s44), sel b10 (undef) (P.s45), sel b11 (undef) (P.s46), sel b12 (undef) (P.s47), sel b13 (.bool false) (P.s48)]
def bs8fF (P : bs8fP) (uu : Nat) (b0 b1 b2 b3 b4 b5 b6 b7 b8 b9 b10 b11 b12 b13 b14 b15 : Bool) (w : World) : Prop := (Below P.W1.heap.size P.W1 w) ∧ (RA P.W1 P.BB 81 #[.string P.kP, .int .i64 P.qP]) ∧ (¬ P.IX < P.LA)
def bs8fI (P : bs8fP) (l : Array Bool) (f : Act) (w : World) : Prop :=
 ∃ (b0 b1 b2 b3 b4 b5 b6 b7 b8 b9 b10 b11 b12 b13 b14 b15 : Bool) (uu : Nat), l = #[b0, b1, b2, b3, b4, b5, b6, b7, b8, b9, b10, b11, b12, b13, b14, b15] ∧ f = { tmps := bs8fT P uu b0 b1 b2 b3 b4 b5 b6 b7 b8 b9 b10 b11 b12 b13 b14 b15, defers := [] } ∧ bs8fF P uu b0 b1 b2 b3 b4 b5 b6 b7 b8 b9 b10 b11 b12 b13 b14 b15 w
theorem bs8fM {P : bs8fP} {b0 b1 b2 b3 b4 b5 b6 b7 b8 b9 b10 b11 b12 b13 b14 b15 : Bool} (uu : Nat) {l : Array Bool} {f : Act} {w : World} (hl : l = #[b0, b1, b2, b3, b4, b5, b6, b7, b8, b9, b10, b11, b12, b13, b14, b15]) (hf : f = { tmps := bs8fT P uu b0 b1 b2 b3 b4 b5 b6 b7 b8 b9 b10 b11 b12 b13 b14 b15, defers := [] }) (h : bs8fF P uu b0 b1 b2 b3 b4 b5 b6 b7 b8 b9 b10 b11 b12 b13 b14 b15 w) : bs8fI P l f w := ⟨b0, b1, b2, b3, b4, b5, b6, b7, b8, b9, b10, b11, b12, b13, b14, b15, uu, hl, hf, h⟩
set_option maxRecDepth 20000 in
set_option maxHeartbeats 20000000 in
theorem bs8f_step {Q : Exit → Act → World → Prop} (P : bs8fP) (l : Array Bool) (f : Act) (w : World) (hC : Closed bs8fO l) (hI : bs8fI P l f w) (i : Nat) (h0 : l.getD i true = false) (o : Oper) (ho : bs8fO[i]? = some o) (h1 : ∀ e ∈ o.after, Region.binds .any e = true → l.getD e.on false = true) : wpOp Tryz.prog bs8fO Q i (bs8fI P (l.setIfInBounds i true)) f w := by
 obtain ⟨b0, b1, b2, b3, b4, b5, b6, b7, b8, b9, b10, b11, b12, b13, b14, b15, uu, rfl, rfl, hF⟩ := hI
 have hi : i < 16 := by
  rcases Nat.lt_or_ge i 16 with h | h
  · exact h
  · rw [show bs8fO[i]? = none from Array.getElem?_eq_none h] at ho; cases ho
 rcases (by omega : i = 0 ∨ i = 1 ∨ i = 2 ∨ i = 3 ∨ i = 4 ∨ i = 5 ∨ i = 6 ∨ i = 7 ∨ i = 8 ∨ i = 9 ∨ i = 10 ∨ i = 11 ∨ i = 12 ∨ i = 13 ∨ i = 14 ∨ i = 15) with rfl | rfl | rfl | rfl | rfl | rfl | rfl | rfl | rfl | rfl | rfl | rfl | rfl | rfl | rfl | rfl
 · obtain rfl : bs8fo0 = o := Option.some.inj ho
   obtain rfl : b0 = false := h0
   have hn := wN9 hC (i := 0) rfl [(14, 0), (15, 0)] [] nk rfl; repeat (obtain ⟨rfl, hn⟩ := hn)
   obtain ⟨hb, hB, he⟩ := hF; refine wpOp_step (o := bs8fo0) rfl (fun K hK => ?_); replace hK := hid hK; simp only [bs8fo0, bs8fT, sel_f]
   go_simp
   exact hK.out _ _ (bs8fM uu rfl rfl ⟨hb, hB, he⟩)
 · obtain rfl : bs8fo1 = o := Option.some.inj ho
   obtain rfl : b1 = false := h0
   have hn := wN9 hC (i := 1) rfl [(3, 1), (4, 3), (5, 4), (6, 4), (7, 4), (8, 4), (9, 4), (10, 4), (11, 4), (12, 4), (13, 4), (14, 11), (15, 1)] [] nk rfl; repeat (obtain ⟨rfl, hn⟩ := hn)
   obtain ⟨hb, hB, he⟩ := hF; refine wpOp_step (o := bs8fo1) rfl (fun K hK => ?_); replace hK := hid hK; simp only [bs8fo1, bs8fT, sel_f]
   go_simp
   exact hK.out _ _ (bs8fM uu rfl rfl ⟨hb, hB, he⟩)
 · obtain rfl : bs8fo2 = o := Option.some.inj ho
   obtain rfl : b2 = false := h0
   have hn := wN9 hC (i := 2) rfl [(3, 2), (4, 3), (5, 4), (6, 4), (7, 4), (8, 4), (9, 4), (10, 4), (11, 4), (12, 4), (13, 4), (14, 11), (15, 2)] [] nk rfl; repeat (obtain ⟨rfl, hn⟩ := hn)
   obtain ⟨hb, hB, he⟩ := hF; refine wpOp_step (o := bs8fo2) rfl (fun K hK => ?_); replace hK := hid hK; simp only [bs8fo2, bs8fT, sel_f]
   go_simp
   exact hK.out _ _ (bs8fM uu rfl rfl ⟨hb, hB, he⟩)
 · obtain rfl : bs8fo3 = o := Option.some.inj ho
   obtain rfl : b3 = false := h0
   have hn := wP9 (o := bs8fo3) hC h1 [(2, none), (1, none)] [] nk rfl; repeat (obtain ⟨rfl, hn⟩ := hn)
   have hn := wN9 hC (i := 3) rfl [(4, 3), (5, 4), (6, 4), (7, 4), (8, 4), (9, 4), (10, 4), (11, 4), (12, 4), (13, 4), (14, 11), (15, 3)] [] nk rfl; repeat (obtain ⟨rfl, hn⟩ := hn)
   obtain ⟨hb, hB, he⟩ := hF; have r1 : ¬ (P.IX : Int) < (P.LA : Int) := by omega
   refine wpOp_step (o := bs8fo3) rfl (fun K hK => ?_); replace hK := hid hK; simp only [bs8fo3, bs8fT, sel_t, sel_f]
   go_simp
   exact hK.out _ _ (bs8fM uu rfl rfl ⟨hb, hB, he⟩)
 · obtain rfl : bs8fo4 = o := Option.some.inj ho
   obtain rfl : b4 = false := h0
   have hn := wP9 (o := bs8fo4) hC h1 [(3, none), (1, some 3), (2, some 3)] [] nk rfl; repeat (obtain ⟨rfl, hn⟩ := hn)
   have hn := wN9 hC (i := 4) rfl [(5, 4), (6, 4), (7, 4), (8, 4), (9, 4), (10, 4), (11, 4), (12, 4), (13, 4), (14, 11), (15, 4)] [] nk rfl; repeat (obtain ⟨rfl, hn⟩ := hn)
   obtain ⟨hb, hB, he⟩ := hF; refine wpOp_step (o := bs8fo4) rfl (fun K hK => ?_); replace hK := hid hK; simp only [bs8fo4, bs8fT, sel_t, sel_f]
   go_simp
   exact hK.out _ _ (bs8fM uu rfl rfl ⟨hb, hB, he⟩)
 · obtain rfl : bs8fo5 = o := Option.some.inj ho
   obtain rfl : b5 = false := h0
   have hn := wP9 (o := bs8fo5) hC h1 [(4, none), (3, some 4), (1, some 3), (2, some 3)] [] nk rfl; repeat (obtain ⟨rfl, hn⟩ := hn)
   have hn := wN9 hC (i := 5) rfl [(11, 5), (12, 11), (13, 12), (14, 11), (15, 5)] [] nk rfl; repeat (obtain ⟨rfl, hn⟩ := hn)
   obtain ⟨hb, hB, he⟩ := hF; refine wpOp_step (o := bs8fo5) rfl (fun K hK => ?_); replace hK := hid hK; simp only [bs8fo5, bs8fT, sel_t, sel_f]
   go_simp
   exact hK.out _ _ (bs8fM uu rfl rfl ⟨hb, hB, he⟩)
 · obtain rfl : bs8fo6 = o := Option.some.inj ho
   obtain rfl : b6 = false := h0
   have hn := wP9 (o := bs8fo6) hC h1 [(4, none), (3, some 4), (1, some 3), (2, some 3)] [] nk rfl; repeat (obtain ⟨rfl, hn⟩ := hn)
   have hn := wN9 hC (i := 6) rfl [(8, 6), (9, 8), (11, 9), (12, 11), (13, 12), (14, 11), (15, 6)] [] nk rfl; repeat (obtain ⟨rfl, hn⟩ := hn)
   obtain ⟨hb, hB, he⟩ := hF; refine wpOp_step (o := bs8fo6) rfl (fun K hK => ?_); replace hK := hid hK; simp only [bs8fo6, bs8fT, sel_t, sel_f]
   go_simp
   exact hK.out _ _ (bs8fM uu rfl rfl ⟨hb, hB, he⟩)
 · obtain rfl : bs8fo7 = o := Option.some.inj ho
   obtain rfl : b7 = false := h0
   have hn := wP9 (o := bs8fo7) hC h1 [(4, none), (3, some 4), (1, some 3), (2, some 3)] [] nk rfl; repeat (obtain ⟨rfl, hn⟩ := hn)
   have hn := wN9 hC (i := 7) rfl [(8, 7), (9, 8), (11, 9), (12, 11), (13, 12), (14, 11), (15, 7)] [] nk rfl; repeat (obtain ⟨rfl, hn⟩ := hn)
   obtain ⟨hb, hB, he⟩ := hF; refine wpOp_step (o := bs8fo7) rfl (fun K hK => ?_); replace hK := hid hK; simp only [bs8fo7, bs8fT, sel_t, sel_f]
   go_simp
   exact hK.out _ _ (bs8fM uu rfl rfl ⟨hb, hB, he⟩)
 · obtain rfl : bs8fo8 = o := Option.some.inj ho
   obtain rfl : b8 = false := h0
   have hn := wP9 (o := bs8fo8) hC h1 [(7, none), (6, none), (4, none), (3, some 4), (1, some 3), (2, some 3)] [] nk rfl; repeat (obtain ⟨rfl, hn⟩ := hn)
   have hn := wN9 hC (i := 8) rfl [(9, 8), (11, 9), (12, 11), (13, 12), (14, 11), (15, 8)] [] nk rfl; repeat (obtain ⟨rfl, hn⟩ := hn)
   obtain ⟨hb, hB, he⟩ := hF; refine wpOp_step (o := bs8fo8) rfl (fun K hK => ?_); replace hK := hid hK; simp only [bs8fo8, bs8fT, sel_t, sel_f]
   go_simp
   exact hK.out _ _ (bs8fM uu rfl rfl ⟨hb, hB, he⟩)
 · obtain rfl : bs8fo9 = o := Option.some.inj ho
   obtain rfl : b9 = false := h0
   have hn := wP9 (o := bs8fo9) hC h1 [(8, none), (4, none), (6, some 8), (7, some 8), (3, some 4), (1, some 3), (2, some 3)] [] nk rfl; repeat (obtain ⟨rfl, hn⟩ := hn)
   have hn := wN9 hC (i := 9) rfl [(11, 9), (12, 11), (13, 12), (14, 11), (15, 9)] [] nk rfl; repeat (obtain ⟨rfl, hn⟩ := hn)
   obtain ⟨hb, hB, he⟩ := hF; refine wpOp_step (o := bs8fo9) rfl (fun K hK => ?_); replace hK := hid hK; simp only [bs8fo9, bs8fT, sel_t, sel_f]
   go_simp
   exact hK.out _ _ (bs8fM uu rfl rfl ⟨hb, hB, he⟩)
 · obtain rfl : bs8fo10 = o := Option.some.inj ho
   obtain rfl : b10 = false := h0
   have hn := wP9 (o := bs8fo10) hC h1 [(4, none), (3, some 4), (1, some 3), (2, some 3)] [] nk rfl; repeat (obtain ⟨rfl, hn⟩ := hn)
   have hn := wN9 hC (i := 10) rfl [(11, 10), (12, 11), (13, 12), (14, 11), (15, 10)] [] nk rfl; repeat (obtain ⟨rfl, hn⟩ := hn)
   obtain ⟨hb, hB, he⟩ := hF; refine wpOp_step (o := bs8fo10) rfl (fun K hK => ?_); replace hK := hid hK; simp only [bs8fo10, bs8fT, sel_t, sel_f]
   go_simp
   exact hK.out _ _ (bs8fM uu rfl rfl ⟨hb, hB, he⟩)
 · obtain rfl : bs8fo11 = o := Option.some.inj ho
   obtain rfl : b11 = false := h0
   have hn := wP9 (o := bs8fo11) hC h1 [(10, none), (9, none), (5, none), (4, none), (8, some 9), (6, some 8), (7, some 8), (3, some 4), (1, some 3), (2, some 3)] [] nk rfl; repeat (obtain ⟨rfl, hn⟩ := hn)
   have hn := wN9 hC (i := 11) rfl [(12, 11), (13, 12), (14, 11), (15, 11)] [] nk rfl; repeat (obtain ⟨rfl, hn⟩ := hn)
   obtain ⟨hb, hB, he⟩ := hF; refine wpOp_step (o := bs8fo11) rfl (fun K hK => ?_); replace hK := hid hK; simp only [bs8fo11, bs8fT, sel_t, sel_f]
   go_simp
   exact hK.out _ _ (bs8fM uu rfl rfl ⟨hb, hB, he⟩)
 · obtain rfl : bs8fo12 = o := Option.some.inj ho
   obtain rfl : b12 = false := h0
   have hn := wP9 (o := bs8fo12) hC h1 [(11, none), (4, none), (5, some 11), (9, some 11), (10, some 11), (8, some 9), (6, some 8), (7, some 8), (3, some 4), (1, some 3), (2, some 3)] [] nk rfl; repeat (obtain ⟨rfl, hn⟩ := hn)
   have hn := wN9 hC (i := 12) rfl [(13, 12), (15, 12)] [] nk rfl; repeat (obtain ⟨rfl, hn⟩ := hn)
   obtain ⟨hb, hB, he⟩ := hF; refine wpOp_step (o := bs8fo12) rfl (fun K hK => ?_); replace hK := hid hK; simp only [bs8fo12, bs8fT, sel_t, sel_f]
   go_simp
   exact hK.out _ _ (bs8fM uu rfl rfl ⟨hb, hB, he⟩)
 · obtain rfl : bs8fo13 = o := Option.some.inj ho
   obtain rfl : b13 = false := h0
   have hn := wP9 (o := bs8fo13) hC h1 [(12, none), (4, none), (11, some 12), (5, some 11), (9, some 11), (10, some 11), (8, some 9), (6, some 8), (7, some 8), (3, some 4), (1, some 3), (2, some 3)] [] nk rfl; repeat (obtain ⟨rfl, hn⟩ := hn)
   have hn := wN9 hC (i := 13) rfl [(15, 13)] [] nk rfl; repeat (obtain ⟨rfl, hn⟩ := hn)
   obtain ⟨hb, hB, he⟩ := hF; refine wpOp_step (o := bs8fo13) rfl (fun K hK => ?_); replace hK := hid hK; simp only [bs8fo13, bs8fT, sel_t, sel_f]
   go_simp
   exact hK.out _ _ (bs8fM uu rfl rfl ⟨hb, hB, he⟩)
 · obtain rfl : bs8fo14 = o := Option.some.inj ho
   obtain rfl : b14 = false := h0
   have hn := wP9 (o := bs8fo14) hC h1 [(11, none), (0, none), (4, some 11), (5, some 11), (9, some 11), (10, some 11), (8, some 9), (6, some 8), (7, some 8), (3, some 4), (1, some 3), (2, some 3)] [] nk rfl; repeat (obtain ⟨rfl, hn⟩ := hn)
   have hn := wN9 hC (i := 14) rfl [(15, 14)] [] nk rfl; repeat (obtain ⟨rfl, hn⟩ := hn)
   obtain ⟨hb, hB, he⟩ := hF; refine wpOp_step (o := bs8fo14) rfl (fun K hK => ?_); replace hK := hid hK; simp only [bs8fo14, bs8fT, sel_t, sel_f]
   go_simp
   exact hK.out _ _ (bs8fM uu rfl rfl ⟨hb, hB, he⟩)
 · obtain rfl : bs8fo15 = o := Option.some.inj ho
   obtain rfl : b15 = false := h0
   have hn := wP9 (o := bs8fo15) hC h1 [(14, none), (13, none), (12, none), (11, none), (10, none), (9, none), (8, none), (7, none), (6, none), (5, none), (4, none), (3, none), (2, none), (1, none), (0, none)] [] nk rfl; repeat (obtain ⟨rfl, hn⟩ := hn)
   obtain ⟨hb, hB, he⟩ := hF; refine wpOp_step (o := bs8fo15) rfl (fun K hK => ?_); replace hK := hid hK; simp only [bs8fo15, bs8fT, sel_t, sel_f]
   go_simp
   exact hK.out _ _ (bs8fM uu rfl rfl ⟨hb, hB, he⟩)
set_option maxRecDepth 20000 in
set_option maxHeartbeats 4000000 in
theorem bs8f_wp {Q : Exit → Act → World → Prop} {rid : Nat} (W1 : World) (GA OA LA CA IX BB : Nat) (kA tA kP : ByteArray) (qA qP : Int) (gA : Bool) {s0 s1 s3 s5 s6 s7 s10 s11 s12 s13 s14 s15 s16 s17 s18 s19 s20 s21 s22 s23 s24 s25 s26 s27 s28 s29 s30 s31 s32 s33 s34 s35 s36 s37 s38 s39 s40 s41 s42 s43 s44 s45 s46 s47 s48 : Value} (w : World) (hb : Below W1.heap.size W1 w) (hB : RA W1 BB 81 #[.string kP, .int .i64 qP]) (he : ¬ IX < LA)
 (fin : ∀ (uu : Nat) (w' : World), (Below W1.heap.size W1 w') → (RA W1 BB 81 #[.string kP, .int .i64 qP]) → (¬ IX < LA) → Q .normal { tmps := #[s0, s1, .func (.func 94) #[] #[], s3, .pointer (some ⟨BB, 0, none⟩), s5, .int .i64 (IX : Int), .bool false, .int .i64 (LA : Int), .int .i64 (IX : Int), s10, s11, s12, s13, s14, s15, s16, s17, s18, s19, s20, s21, s22, s23, s24, s25, s26, s27, s28, s29, s30, s31, s32, s33, s34, .int .i64 (IX : Int), .int .i64 (IX : Int), .int .i64 (LA : Int), .bool false, .bool false, undef, undef, undef, undef, undef, undef, undef, undef, .bool false], defers := [] } w') :
 (Code.region rid bs8fO true).wp Tryz.prog Q { tmps := #[s0, s1, .func (.func 94) #[] #[], s3, .pointer (some ⟨BB, 0, none⟩), s5, s6, s7, .int .i64 (LA : Int), .int .i64 (IX : Int), s10, s11, s12, s13, s14, s15, s16, s17, s18, s19, s20, s21, s22, s23, s24, s25, s26, s27, s28, s29, s30, s31, s32, s33, s34, s35, s36, s37, s38, s39, s40, s41, s42, s43, s44, s45, s46, s47, s48], defers := [] } w := by
 refine wp_region_invG (ops := bs8fO) (bs8fI ⟨W1, GA, OA, LA, CA, IX, BB, kA, tA, kP, qA, qP, gA, s0, s1, s3, s5, s6, s7, s10, s11, s12, s13, s14, s15, s16, s17, s18, s19, s20, s21, s22, s23, s24, s25, s26, s27, s28, s29, s30, s31, s32, s33, s34, s35, s36, s37, s38, s39, s40, s41, s42, s43, s44, s45, s46, s47, s48⟩) (by kernel_rfl) (by kernel_rfl) (fun l f v hI => ?_) (fun l f v hC hI i h0 o ho h1 => bs8f_step ⟨W1, GA, OA, LA, CA, IX, BB, kA, tA, kP, qA, qP, gA, s0, s1, s3, s5, s6, s7, s10, s11, s12, s13, s14, s15, s16, s17, s18, s19, s20, s21, s22, s23, s24, s25, s26, s27, s28, s29, s30, s31, s32, s33, s34, s35, s36, s37, s38, s39, s40, s41, s42, s43, s44, s45, s46, s47, s48⟩ l f v hC hI i h0 o ho h1) (fun l f v hI hall => ?_) ?_
 · obtain ⟨_, _, _, _, _, _, _, _, _, _, _, _, _, _, _, _, _, rfl, _⟩ := hI; rfl
 · obtain ⟨b0, b1, b2, b3, b4, b5, b6, b7, b8, b9, b10, b11, b12, b13, b14, b15, uu, rfl, rfl, hb, hB, he⟩ := hI
   have hn := allT hall [0, 1, 2, 3, 4, 5, 6, 7, 8, 9, 10, 11, 12, 13, 14, 15] rfl; repeat (obtain ⟨rfl, hn⟩ := hn)
   exact fin uu v hb hB he
 · exact ⟨false, false, false, false, false, false, false, false, false, false, false, false, false, false, false, false, 0, rfl, rfl, hb.drew, hB, he⟩
end Go.Proofs.YtcbmgpdpjagaoaaGreat
namespace Go.Proofs.YtcbmgpdpjagaoaaGreat
open Go.RowKit
set_option linter.unusedVariables false
def plE (k : ByteArray) (q : Int) : En := ⟨k, q, false, ⟨#[]⟩⟩
theorem Ens.dropE {w : World} {a : Option Addr} {n cap : Nat} {o : Nat → En} (h : Ens w a n cap o) {d : Nat} (hd : d ≤ n) : Ens w (Option.map (fun x => x.add (d * 4)) a) (n - d) (cap - d) (fun i => o (d + i)) := by
 refine ⟨by have := h.1; omega, ?_⟩
 rcases h.2 with h0 | ⟨b, off, rfl, hb, hc⟩
 · exact .inl (by omega)
 · refine .inr ⟨b, off + d * 4, by simp [Addr.add], hb, fun k hk => ?_⟩
   have e : off + d * 4 + k * 4 = off + (d + k) * 4 := by omega
   rw [e]; exact hc (d + k) (by omega)
set_option maxRecDepth 20000 in
set_option maxHeartbeats 4000000 in
theorem iBS (a : Option Addr) (n cap : Nat) (o : Nat → En) (hn : n ≤ 1048576) (k : ByteArray) (q : Int) (w : World) (h : Ens w a n cap o) (hs : ∀ i j, i < j → j < n → enLt (o i) (o j)) :
 Calls Tryz.prog 93 #[.slice a n cap, .agg #[.string k, .int .i64 q], .func (.func 94) #[] #[]] w fun e w' => (∃ (at_ : Nat) (v : Value), e = .returned (.tuple #[.int .i64 (at_ : Int), v]) ∧ at_ ≤ n ∧ (∀ i, i < at_ → enLt (o i) (plE k q)) ∧ ∀ i, at_ ≤ i → i < n → ¬ enLt (o i) (plE k q)) ∧ Below w.heap.size w w' := by
 obtain ⟨W1, hW1⟩ : ∃ W, W = w.alloc (.cells #[.string k, .int .i64 q] 81) := ⟨_, rfl⟩; have B1 : Hid (Below w.heap.size w W1) := by rw [hW1]; exact (Below.refl _ _).alloc (Nat.le_refl _) _
 have P1 : Hid (RA W1 w.heap.size 81 #[.string k, .int .i64 q]) := by rw [hW1]; exact RA.new _ _ _
 have E1 := hid (h.below B1.out); have HS := hid hs; clear h hs
 go_enter Tryz.func93, Tryz.ntmps93
 go_upto_region 1 with fail
 rw [← hW1]; clear hW1
 go_wp2_with fail
 go_loopw [9, 10] (fun vi vj wr => ∃ (i j : Nat), vi = .int .i64 (i : Int) ∧ vj = .int .i64 (j : Int) ∧ i ≤ j ∧ j ≤ n ∧ (∀ t, t < i → enLt (o t) (plE k q)) ∧ (∀ t, j ≤ t → t < n → ¬ enLt (o t) (plE k q)) ∧ Below W1.heap.size W1 wr) (fun vi vj _ => (intOf vj).toNat - (intOf vi).toNat)
 case atStart => exact ⟨0, n, rfl, rfl, Nat.zero_le _, Nat.le_refl _, fun t ht => absurd ht (Nat.not_lt_zero _), fun t h1 h2 => by omega, Below.refl _ _⟩
 case round =>
  obtain ⟨i, j, rfl, rfl, hij, hjn, hlo, hhi, hb⟩ := hrel; obtain ⟨WR, hWR⟩ : ∃ v, v = wr := ⟨_, rfl⟩; subst hWR; have LO := hid hlo; have HI := hid hhi; have BR := hid hb; clear hlo hhi hb
  by_cases hlt : i < j
  · have d0 : (i : Int) < (j : Int) := by omega
    obtain ⟨m, hm⟩ : ∃ m, m = (i + j) / 2 := ⟨_, rfl⟩; have HM := hid hm; have mi : i ≤ m := by omega
    have mj : m < j := by omega
    clear hm
    rcases E1.out.2 with h00 | ⟨g, og, rfl, hgl, hc⟩
    · omega
    obtain ⟨x0, x1, x2, x3⟩ := hc m (by omega); have X := hid (And.intro ((BR.out.cell (p := ⟨g, og + m * 4, none⟩) hgl).trans x0) (And.intro ((BR.out.cell (p := ⟨g, og + m * 4 + 1, none⟩) hgl).trans x1) (And.intro ((BR.out.cell (p := ⟨g, og + m * 4 + 2, none⟩) hgl).trans x2) (And.intro ((BR.out.cell (p := ⟨g, og + m * 4 + 3, none⟩) hgl).trans x3) (And.intro (Nat.lt_of_lt_of_le hgl BR.out.size) (show m < n by omega)))))); have PR := hid (P1.out.below BR.out P1.out.lt); clear x0 x1 x2 x3 hc; have em : ((i : Int) + (j : Int)) / 2 = (m : Int) := by have := HM.out; omega
    go_upto_region 5 with fail
    try rw [em]
    refine bs5_wp WR g og n cap m w.heap.size (o m).ky (o m).tx k (o m).sq q (o m).gn WR (Below.refl _ _) PR.out X.out ?_; intro uu w2 hb2; intros; have B2 := hid (BR.out.trans (hb2.mono BR.out.size)); clear hb2 em X PR; have ec := enCmp_lt (o m) (plE k q)
    by_cases hc : enCmp (o m) (plE k q) < 0
    · have dc : decide (orI (kCmp (o m).ky k) (cmpI q (o m).sq) < 0) = true := decide_eq_true hc
      have L2 : Hid (∀ t, t < m + 1 → enLt (o t) (plE k q)) := fun t ht => by
       by_cases e : t = m
       · rw [e]; exact ec.1 hc
       · exact enLt_trans (HS.out t m (by omega) (by omega)) (ec.1 hc)
      generalize orI (kCmp (o m).ky k) (cmpI q (o m).sq) = Z at dc ⊢
      clear ec hc; rw [dc]; clear dc
      go_wp2
      go_roundw
      case rel => exact ⟨m + 1, j, by go_num, rfl, by omega, hjn, L2.out, HI.out, B2.out⟩
      case measure => simp [intOf]; omega
    · have dc : decide (orI (kCmp (o m).ky k) (cmpI q (o m).sq) < 0) = false := decide_eq_false hc
      have H2 : Hid (∀ t, m ≤ t → t < n → ¬ enLt (o t) (plE k q)) := fun t ht htn hl => by
       by_cases e : t = m
       · rw [e] at hl; exact hc (ec.2 hl)
       · exact hc (ec.2 (enLt_trans (HS.out m t (by omega) htn) hl))
      generalize orI (kCmp (o m).ky k) (cmpI q (o m).sq) = Z at dc ⊢
      clear ec hc; rw [dc]; clear dc
      go_wp2
      go_roundw
      case rel => exact ⟨i, m, rfl, rfl, mi, by omega, LO.out, H2.out, B2.out⟩
      case measure => simp [intOf]; omega
  · have d0 : ¬ (i : Int) < (j : Int) := by omega
    have ej : Hid (i = j) := by show i = j; omega
    by_cases hin : i < n
    · rcases E1.out.2 with h00 | ⟨g, og, rfl, hgl, hc⟩
      · omega
      obtain ⟨x0, x1, x2, x3⟩ := hc i hin; have X := hid (And.intro ((BR.out.cell (p := ⟨g, og + i * 4, none⟩) hgl).trans x0) (And.intro ((BR.out.cell (p := ⟨g, og + i * 4 + 1, none⟩) hgl).trans x1) (And.intro ((BR.out.cell (p := ⟨g, og + i * 4 + 2, none⟩) hgl).trans x2) (And.intro ((BR.out.cell (p := ⟨g, og + i * 4 + 3, none⟩) hgl).trans x3) (And.intro (Nat.lt_of_lt_of_le hgl BR.out.size) hin))))); have PR := hid (P1.out.below BR.out P1.out.lt); clear x0 x1 x2 x3 hc
      go_upto_region 8 with fail
      refine bs8t_wp WR g og n cap i w.heap.size (o i).ky (o i).tx k (o i).sq q (o i).gn WR (Below.refl _ _) PR.out X.out ?_; intro uu w2 hb2; intros; have B2 := hid (B1.out.trans ((BR.out.trans (hb2.mono BR.out.size)).mono B1.out.size)); clear hb2 X PR
      go_wp2
      refine bodyPost_ret (results_tmp2 (by rfl) _ _ _) rfl ?_; exact ⟨⟨i, ⟨_, rfl⟩, by omega, LO.out, fun t h1 h2 => HI.out t (by have := ej.out; omega) h2⟩, B2.out⟩
    · have PR := hid (P1.out.below BR.out P1.out.lt)
      go_upto_region 8 with fail
      refine bs8f_wp WR 0 0 n 0 i w.heap.size ⟨#[]⟩ ⟨#[]⟩ k 0 q false WR (Below.refl _ _) PR.out hin ?_; intro uu w2 hb2; intros; have B2 := hid (B1.out.trans ((BR.out.trans (hb2.mono BR.out.size)).mono B1.out.size)); clear hb2 PR
      go_wp2
      refine bodyPost_ret (results_tmp2 (by rfl) _ _ _) rfl ?_; exact ⟨⟨i, ⟨_, rfl⟩, by omega, LO.out, fun t h1 h2 => HI.out t (by have := ej.out; omega) h2⟩, B2.out⟩
set_option maxRecDepth 20000 in
set_option maxHeartbeats 4000000 in
theorem iEF (a : Option Addr) (n cap : Nat) (o : Nat → En) (hn : n ≤ 1048576) (k : ByteArray) (w : World) (h : Ens w a n cap o) (hs : ∀ i j, i < j → j < n → enLt (o i) (o j)) :
 Calls Tryz.prog 70 #[.agg #[.slice a n cap], .string k] w fun e w' => (∃ (at_ : Nat) (a' : Option Addr) (c' : Nat), e = .returned (.slice a' (n - at_) c') ∧ at_ ≤ n ∧ (∀ wx, Ens wx a n cap o → Ens wx a' (n - at_) c' (fun i => o (at_ + i))) ∧ (∀ i, i < at_ → enLt (o i) (plE k 9223372036854775807)) ∧ ∀ i, at_ ≤ i → i < n → ¬ enLt (o i) (plE k 9223372036854775807)) ∧ Below w.heap.size w w' := by
 obtain ⟨W1, hW1⟩ : ∃ W, W = w.alloc (.cells #[.slice a n cap] 25) := ⟨_, rfl⟩; obtain ⟨W2, hW2⟩ : ∃ W, W = W1.alloc (.cells #[.string k, .int .i64 9223372036854775807] 81) := ⟨_, rfl⟩; have b1 : Hid (Below w.heap.size w W1) := by rw [hW1]; exact (Below.refl _ _).alloc (Nat.le_refl _) _
 have B2 : Hid (Below w.heap.size w W2) := by rw [hW2]; exact b1.out.alloc b1.out.size _
 have R2 : Hid (RA W2 w.heap.size 25 #[.slice a n cap]) := by rw [hW2, hW1]; exact (RA.new _ _ _).alloc _
 have P2 : Hid (RA W2 W1.heap.size 81 #[.string k, .int .i64 9223372036854775807]) := by rw [hW2]; exact RA.new _ _ _
 have K := hid (iBS a n cap o hn k 9223372036854775807 W2 (h.below B2.out) hs); have HE := hid h; clear h hs
 go_enter Tryz.func70, Tryz.ntmps70
 go_upto_region 1 with fail
 rw [← hW1]; clear hW1
 go_upto_region 2 with fail
 rw [← hW2]; clear hW2; have c0 := R2.out.cell 0; have p0 := P2.out.cell 0; have p1 := P2.out.cell 1
 go_wp2_with fail
 refine K.out.mono ?_
 rintro e w3 ⟨⟨at_, b, rfl, hat, hlo, hhi⟩, hb3⟩
 have LO := hid hlo; have HI := hid hhi; have B3 := hid (B2.out.trans (hb3.mono B2.out.size)); have R3 := hid (R2.out.below hb3 R2.out.lt); clear hlo hhi hb3 c0 p0 p1 K; have c0 := R3.out.cell 0; have d1 : (at_ : Int) ≤ (n : Int) := by omega
 have d2 : (0 : Int) ≤ (at_ : Int) := by omega
 by_cases hcap : cap = at_
 · have en : n = at_ := by have := HE.out.1; omega
   have E0 : Hid (∀ wx, Ens wx a n cap o → Ens wx a (n - at_) 0 (fun i => o (at_ + i))) := fun _ _ => ⟨by omega, .inl (by omega)⟩; have D1 : Hid (at_ ≤ n) := hat; subst hcap; clear en d1 d2
   go_wp2
   go_ret
   exact ⟨⟨_, a, 0, rfl, D1.out, E0.out, LO.out, HI.out⟩, B3.out⟩
 · have E0 : Hid (∀ wx, Ens wx a n cap o → Ens wx (Option.map (fun x => x.add (at_ * 4)) a) (n - at_) (cap - at_) (fun i => o (at_ + i))) := fun _ h => h.dropE hat
   have D1 : Hid (at_ ≤ n) := hat; have hcc : at_ < cap := by have := HE.out.1; omega
   go_wp2
   go_ret
   exact ⟨⟨_, _, _, rfl, D1.out, E0.out, LO.out, HI.out⟩, B3.out⟩
end Go.Proofs.YtcbmgpdpjagaoaaGreat
