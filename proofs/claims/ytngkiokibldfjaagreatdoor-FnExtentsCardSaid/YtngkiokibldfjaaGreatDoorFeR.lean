import Derived.Test.YtngkiokibldfjaaGreatDoorFeK
import Derived.Test.YtngkiokibldfjaaGreatDoorEE
import Derived.Test.YtngkiokibldfjaaGreatDoorDrawXo
import Derived.Laws.AppendOwnNone
namespace Go.Proofs.YtngkiokibldfjaaGreatDoor
open Go.RowKit
set_option linter.unusedVariables false
/-! FnExtents: two operations ahead of the reads, and a run of them all. -/
theorem own_two (w : World) (B : Nat) (hB : B ≤ w.heap.size) : OwnOp (w.alloc (.cells #[.int .i64 8, .string ⟨#[]⟩, .string ⟨#[]⟩, .int .i64 0, .int .i64 0, .int .i64 0, .int .i64 7, .string ⟨#[]⟩, .string ⟨#[]⟩, .int .i64 0, .int .i64 0, .int .i64 0] 27)) B (.slice (some ⟨w.heap.size, 0, none⟩) 2 2) [opCm, opSc] :=
  ⟨rfl, .inr ⟨w.heap.size, 2, _, rfl, hB, heap_alloc_new w _, Nat.le_refl _, by unfold maxLen; omega, rfl, rfl⟩⟩
theorem step_append_ops (base B : Nat) (w : World) {ops : Array Oper} {op : Oper} {a : Act} {K : Act → World → Prop} {Q : Exit → Act → World → Prop} {E : Prop} (hgd : op.guard = none) (s x : Operand)
    (ho : op.op = .call { callee := .builtin .append, args := #[s, x], argTypes := #[24, 24] })
    (v : Value) (L : List Op) (hs : a.eval s = v) (hown : OwnOp w base v L) (hsz : base ≤ w.heap.size)
    (av : Option Addr) (cv : Nat) (M : List Op) (n : Nat) (hn : M.length = n) (hx : a.eval x = .slice av n cv) (hM : OwnOp w B (.slice av n cv) M) (hlen : L.length + n ≤ 1048576)
    (h : ∀ a' c' w', OwnOp w' base (.slice a' (n + L.length) c') (L ++ M) → w.grownBy w' v.ownBlock → K (a.put op.dst (.slice a' (n + L.length) c')) w') :
    if Region.wanted op (yielded ops a.tmps) = true then Oper.wp Tryz.prog op a w K Q else E := by
  subst hn
  have hw : Region.wanted op (yielded ops a.tmps) = true := by simp [Region.wanted, hgd]
  rw [if_pos hw]
  have fin : ∀ v' w', OwnOp w' base v' (L ++ M) → w.grownBy w' v.ownBlock → K (a.put op.dst v') w' := fun v' w' h1 h2 => by
    obtain ⟨a', c', e⟩ := h1.slice
    rw [List.length_append, Nat.add_comm] at e
    subst e
    exact h a' c' w' h1 h2
  obtain ⟨i0, hi, hz0, hz1, hz2⟩ := info_parts Tryz.infoOpO
  rcases hM.2 with ⟨h0, h1⟩ | ⟨g, cap, cur, he, hb, hr, hnc, hm, hsz2, htk⟩
  · have hl : M = [] := List.eq_nil_of_length_eq_zero h1
    subst hl
    have hrun := run_append_owned_none (P := Tryz.prog) (w := w) base 24 op.type 27 i0 6 Tryz.underlying24 hi v L.length _ hown
    have hx0 : a.eval x = .slice none 0 0 := hx.trans h0
    unfold Oper.wp
    simp [execOp, ho, resolve, invoke, builtin, hs, hx0, hrun, Result.andThen]
    have e2 : L ++ ([] : List Op) = L := List.append_nil L
    have h2 : OwnOp w base v (L ++ []) := by rw [e2]; exact hown
    have h3 : w.grownBy w v.ownBlock := below_grown (Below.refl _ w) _
    exact fin v w h2 h3
  · injection he with e1 e2 e3
    subst e1 e3
    have R : RowAt w g 27 cur := hr
    refine wp_append_own w s x 24 ho base 27 i0 _ 6 64 Tryz.underlying24 hi hz0 hz1 hz2 rfl (by decide) v L.length _ hs hown ⟨g, 0, none⟩ M.length cv (opL M) hx (opL_len M) ?_ ?_ ?_ ?_ hsz ?_
    · intro j u hj
      have hl : j < M.length * 6 := by rw [← opL_len]; exact (List.getElem?_eq_some_iff.1 hj).1
      have := congrArg (·[j]?) htk
      simp only [List.getElem?_take] at this
      rw [if_pos hl, Array.getElem?_toList, hj] at this
      have hadd : (⟨g, 0, none⟩ : Addr).add j = ⟨g, j, none⟩ := by unfold Addr.add; split <;> simp_all
      rw [hadd, R.cell]
      exact this
    · intro u hu
      obtain ⟨y, _, hy⟩ := List.mem_flatMap.1 hu
      simp [opC] at hy
      rcases hy with rfl | rfl | rfl | rfl | rfl | rfl <;> rfl
    · unfold maxLen; omega
    · omega
    · intro v' w' h1 h2 h3
      refine fin v' w' ?_ h2
      unfold OwnOp
      rw [opL_app, List.length_append]
      exact h1
theorem e22_run (ea eb : Addr) (D : ByteArray) (Z : Int) (L : List Op) (aB : Option Addr) (cB n : Nat) (hn : L.length = n) (D2 : ByteArray) (S2 : Int) (L12 : List XOt) (m12 : Nat) (hz : rRes D Z L = ((D2, S2), L12)) (hm : L12.length = m12) (hy : ∀ k, k < L.length → (L.getD k opZ).ky.size ≤ 1048576 ∧ (L.getD k opZ).dt.size ≤ 1048576) (W : World) (hE : Errs W ea eb) (hT : TB W) {B : Nat} (h : OwnOp W B (.slice aB n cB) L) :
    Calls Tryz.prog 8 #[.agg #[.string D, .int .i64 Z], .slice aB n cB] W fun e w' => (∃ a c O, e = .returned (.agg #[.string D2, .int .i64 S2, .slice a m12 c]) ∧ O.map Prod.fst = L12 ∧ w'.ownsRow W.heap.size 36 4 (.slice a m12 c) O.length (xoL O) ∧ ∀ p ∈ O, OwnStrs w' W.heap.size p.2 p.1.ks) ∧ Below W.heap.size W w' := by
  subst hn hm
  have K := iRunE ea eb D Z L aB cB hy W hE hT (h.exs _ (Nat.le_refl _))
  rw [hz] at K
  exact K
def e22o0 : Oper := ⟨some 143, .fieldAddr 33 (.tmp 5) 0, 0, "laws.go:532", #[], none⟩
def e22o1 : Oper := ⟨some 144, .load 30 (.tmp 143), 30, "laws.go:532", #[⟨0, .data⟩], none⟩
def e22o2 : Oper := ⟨some 145, .build 27 #[(0, .const (.int .i64 8))], 27, "laws.go:532", #[], none⟩
def e22o3 : Oper := ⟨some 146, .build 27 #[(0, .const (.int .i64 7))], 27, "laws.go:532", #[], none⟩
def e22o4 : Oper := ⟨some 147, .buildSlice 24 2 #[(0, .tmp 145), (1, .tmp 146)], 24, "laws.go:532", #[⟨2, .data⟩, ⟨3, .data⟩], none⟩
def e22o5 : Oper := ⟨some 148, .move (.tmp 9), 24, "laws.go:532", #[], none⟩
def e22o6 : Oper := ⟨some 149, .call { callee := .builtin Builtin.append, args := #[.tmp 147, .tmp 148], argTypes := #[24, 24] }, 24, "laws.go:532", #[⟨4, .data⟩, ⟨5, .data⟩], none⟩
def e22o7 : Oper := ⟨some 150, .call { callee := .value (.func 8), args := #[.tmp 144, .tmp 149], argTypes := #[30, 24] }, 33, "laws.go:532", #[⟨1, .data⟩, ⟨6, .data⟩, ⟨6, .chain⟩], none⟩
def e22o8 : Oper := ⟨some 12, .alloc 33, 0, "laws.go:532", #[], none⟩
def e22o9 : Oper := ⟨none, .store 33 (.tmp 12) (.tmp 150), 0, "laws.go:532", #[⟨8, .data⟩, ⟨7, .data⟩, ⟨7, .chain⟩, ⟨0, .phase⟩, ⟨1, .phase⟩, ⟨2, .phase⟩, ⟨3, .phase⟩, ⟨4, .phase⟩, ⟨5, .phase⟩, ⟨6, .phase⟩, ⟨7, .phase⟩, ⟨8, .phase⟩], none⟩
def e22O : Array Oper := #[e22o0, e22o1, e22o2, e22o3, e22o4, e22o5, e22o6, e22o7, e22o8, e22o9]
structure e22P where
  (Wb : World)
  (ea eb : Addr)
  (xr no nn m12 c5 cv bs : Nat)
  (a5 av : Option Addr)
  (D D2 : ByteArray)
  (Z S2 : Int)
  (RD : List Op)
  (L12 : List XOt)
  (s0 s1 s2 s3 s4 s6 s7 s8 s10 s11 s12 s13 s14 s15 s16 s17 s18 s19 s20 s21 s22 s23 s24 s25 s26 s27 s28 s29 s30 s31 s32 s33 s34 s35 s36 s37 s38 s39 s40 s41 s42 s43 s44 s45 s46 s47 s48 s49 s50 s51 s52 s53 s54 s55 s56 s57 s58 s59 s60 s61 s62 s63 s64 s65 s66 s67 s68 s69 s70 s71 s72 s73 s74 s75 s76 s77 s78 s79 s80 s81 s82 s83 s84 s85 s86 s87 s88 s89 s90 s91 s92 s93 s94 s95 s96 s97 s98 s99 s100 s101 s102 s103 s104 s105 s106 s107 s108 s109 s110 s111 s112 s113 s114 s115 s116 s117 s118 s119 s120 s121 s122 s123 s124 s125 s126 s127 s128 s129 s130 s131 s132 s133 s134 s135 s136 s137 s138 s139 s140 s141 s142 s143 s144 s145 s146 s147 s148 s149 s150 s151 s152 s153 s154 s155 s156 s157 s158 s159 s160 s161 s162 s163 s164 s165 s166 s167 s168 s169 s170 s171 s172 s173 s174 s175 s176 s177 s178 s179 s180 s181 s182 s183 s184 s185 s186 s187 s188 s189 s190 s191 s192 s193 s194 s195 s196 s197 s198 s199 s200 s201 s202 s203 s204 s205 s206 s207 s208 s209 s210 : Value)
def e22T (P : e22P) (XS : Nat) (XB : Nat) (aB : Option Addr) (cB : Nat) (aR : Option Addr) (cR : Nat) (O12 : List (XOt × Value)) (b0 b1 b2 b3 b4 b5 b6 b7 b8 b9 : Bool) : Array Value := #[P.s0, P.s1, P.s2, P.s3, P.s4, .pointer (some ⟨P.xr, 0, none⟩), P.s6, P.s7, P.s8, .slice P.av P.nn P.cv, P.s10, P.s11, sel b8 (.pointer (some ⟨XB, 0, none⟩)) (P.s12), P.s13, P.s14, P.s15, P.s16, P.s17, P.s18, P.s19, P.s20, P.s21, P.s22, P.s23, P.s24, P.s25, P.s26, P.s27, P.s28, P.s29, P.s30, P.s31, P.s32, P.s33, P.s34, P.s35, P.s36, P.s37, P.s38, P.s39, P.s40, P.s41, P.s42, P.s43, P.s44, P.s45, P.s46, P.s47, P.s48, P.s49, P.s50, P.s51, P.s52, P.s53, P.s54, P.s55, P.s56, P.s57, P.s58, P.s59, P.s60, P.s61, P.s62, P.s63, P.s64, P.s65, P.s66, P.s67, P.s68, P.s69, P.s70, P.s71, P.s72, P.s73, P.s74, P.s75, P.s76, P.s77, P.s78, P.s79, P.s80, P.s81, P.s82, P.s83, P.s84, P.s85, P.s86, P.s87, P.s88, P.s89, P.s90, P.s91, P.s92, P.s93, P.s94, P.s95, P.s96, P.s97, P.s98, P.s99, P.s100, P.s101, P.s102, P.s103, P.s104, P.s105, P.s106, P.s107, P.s108, P.s109, P.s110, P.s111, P.s112, P.s113, P.s114, P.s115, P.s116, P.s117, P.s118, P.s119, P.s120, P.s121, P.s122, P.s123, P.s124, P.s125, P.s126, P.s127, P.s128, P.s129, P.s130, P.s131, P.s132, P.s133, P.s134, P.s135, P.s136, P.s137, P.s138, P.s139, P.s140, P.s141, P.s142, sel b0 (.pointer (some ⟨P.xr, 0, none⟩)) (P.s143), sel b1 (.agg #[.string P.D, .int .i64 P.Z]) (P.s144), sel b2 (.agg #[.int .i64 8, .string ⟨#[]⟩, .string ⟨#[]⟩, .int .i64 0, .int .i64 0, .int .i64 0]) (P.s145), sel b3 (.agg #[.int .i64 7, .string ⟨#[]⟩, .string ⟨#[]⟩, .int .i64 0, .int .i64 0, .int .i64 0]) (P.s146), sel b4 (.slice (some ⟨XS, 0, none⟩) 2 2) (P.s147), sel b5 (.slice P.av P.nn P.cv) (P.s148), sel b6 (.slice aB (P.nn + 2) cB) (P.s149), sel b7 (.agg #[.string P.D2, .int .i64 P.S2, .slice aR P.m12 cR]) (P.s150), P.s151, P.s152, P.s153, P.s154, P.s155, P.s156, P.s157, P.s158, P.s159, P.s160, P.s161, P.s162, P.s163, P.s164, P.s165, P.s166, P.s167, P.s168, P.s169, P.s170, P.s171, P.s172, P.s173, P.s174, P.s175, P.s176, P.s177, P.s178, P.s179, P.s180, P.s181, P.s182, P.s183, P.s184, P.s185, P.s186, P.s187, P.s188, P.s189, P.s190, P.s191, P.s192, P.s193, P.s194, P.s195, P.s196, P.s197, P.s198, P.s199, P.s200, P.s201, P.s202, P.s203, P.s204, P.s205, P.s206, P.s207, P.s208, P.s209, P.s210]
def e22F (P : e22P) (XS : Nat) (XB : Nat) (aB : Option Addr) (cB : Nat) (aR : Option Addr) (cR : Nat) (O12 : List (XOt × Value)) (b0 b1 b2 b3 b4 b5 b6 b7 b8 b9 : Bool) (w : World) : Prop := (Below P.Wb.heap.size P.Wb w) ∧ (b4 = true → b6 = false → OwnOp w P.Wb.heap.size (.slice (some ⟨XS, 0, none⟩) 2 2) [opCm, opSc]) ∧ (b6 = true → OwnOp w P.Wb.heap.size (.slice aB (P.nn + 2) cB) ([opCm, opSc] ++ P.RD)) ∧ (b7 = true → O12.map Prod.fst = P.L12) ∧ (b7 = true → w.ownsRow P.Wb.heap.size 36 4 (.slice aR P.m12 cR) O12.length (xoL O12)) ∧ (b7 = true → ∀ p ∈ O12, OwnStrs w P.Wb.heap.size p.2 p.1.ks) ∧ (b8 = true → P.Wb.heap.size ≤ XB ∧ RowAt w XB 33 (cond b9 #[.string P.D2, .int .i64 P.S2, .slice aR P.m12 cR] #[.string ⟨#[]⟩, .int .i64 0, .slice none 0 0])) ∧ (RowAt P.Wb P.xr 33 #[.string P.D, .int .i64 P.Z, .slice P.a5 P.no P.c5]) ∧ (OwnOp P.Wb P.bs (.slice P.av P.nn P.cv) P.RD) ∧ (Errs P.Wb P.ea P.eb ∧ TB P.Wb) ∧ (rRes P.D P.Z ([opCm, opSc] ++ P.RD) = ((P.D2, P.S2), P.L12)) ∧ (P.RD.length = P.nn ∧ P.L12.length = P.m12 ∧ P.nn ≤ 2000) ∧ (∀ j, j < ([opCm, opSc] ++ P.RD).length → (([opCm, opSc] ++ P.RD).getD j opZ).ky.size ≤ 1048576 ∧ (([opCm, opSc] ++ P.RD).getD j opZ).dt.size ≤ 1048576)
def e22I (P : e22P) (l : Array Bool) (f : Act) (w : World) : Prop :=
  ∃ (b0 b1 b2 b3 b4 b5 b6 b7 b8 b9 : Bool) (XS : Nat) (XB : Nat) (aB : Option Addr) (cB : Nat) (aR : Option Addr) (cR : Nat) (O12 : List (XOt × Value)), l = #[b0, b1, b2, b3, b4, b5, b6, b7, b8, b9] ∧ f = { tmps := e22T P XS XB aB cB aR cR O12 b0 b1 b2 b3 b4 b5 b6 b7 b8 b9, defers := [] } ∧ e22F P XS XB aB cB aR cR O12 b0 b1 b2 b3 b4 b5 b6 b7 b8 b9 w
theorem e22M {P : e22P} {b0 b1 b2 b3 b4 b5 b6 b7 b8 b9 : Bool} (XS : Nat) (XB : Nat) (aB : Option Addr) (cB : Nat) (aR : Option Addr) (cR : Nat) (O12 : List (XOt × Value)) {l : Array Bool} {f : Act} {w : World} (hl : l = #[b0, b1, b2, b3, b4, b5, b6, b7, b8, b9]) (hf : f = { tmps := e22T P XS XB aB cB aR cR O12 b0 b1 b2 b3 b4 b5 b6 b7 b8 b9, defers := [] }) (h : e22F P XS XB aB cB aR cR O12 b0 b1 b2 b3 b4 b5 b6 b7 b8 b9 w) : e22I P l f w := ⟨b0, b1, b2, b3, b4, b5, b6, b7, b8, b9, XS, XB, aB, cB, aR, cR, O12, hl, hf, h⟩
set_option maxRecDepth 20000 in
set_option maxHeartbeats 20000000 in
theorem e22_step {Q : Exit → Act → World → Prop} (P : e22P) (l : Array Bool) (f : Act) (w : World) (hC : Closed e22O l) (hI : e22I P l f w) (i : Nat) (h0 : l.getD i true = false) (o : Oper) (ho : e22O[i]? = some o) (h1 : ∀ e ∈ o.after, Region.binds .any e = true → l.getD e.on false = true) : wpOp Tryz.prog e22O Q i (e22I P (l.setIfInBounds i true)) f w := by
  obtain ⟨b0, b1, b2, b3, b4, b5, b6, b7, b8, b9, XS, XB, aB, cB, aR, cR, O12, rfl, rfl, hF⟩ := hI
  have hi : i < 10 := by
    rcases Nat.lt_or_ge i 10 with h | h
    · exact h
    · rw [show e22O[i]? = none from Array.getElem?_eq_none h] at ho; cases ho
  rcases (by omega : i = 0 ∨ i = 1 ∨ i = 2 ∨ i = 3 ∨ i = 4 ∨ i = 5 ∨ i = 6 ∨ i = 7 ∨ i = 8 ∨ i = 9) with rfl | rfl | rfl | rfl | rfl | rfl | rfl | rfl | rfl | rfl
  · obtain rfl : e22o0 = o := Option.some.inj ho
    obtain rfl : b0 = false := h0
    have hn := wayN_all hC (i := 0) rfl [(1, 0), (7, 1), (9, 0)] [] nk rfl; repeat (obtain ⟨rfl, hn⟩ := hn)
    obtain ⟨hB, ht, hu, hm, hr, hk, hb, hq, ho, he, hz, hl, hy⟩ := hF
    refine wpOp_step (o := e22o0) rfl (fun K hK => ?_)
    replace hK := hid hK
    simp only [e22o0, e22T, sel_f]
    go_simp
    exact hK.out _ _ (e22M XS XB aB cB aR cR O12 rfl rfl ⟨hB, ht, hu, hm, hr, hk, hb, hq, ho, he, hz, hl, hy⟩)
  · obtain rfl : e22o1 = o := Option.some.inj ho
    obtain rfl : b1 = false := h0
    have hn := wayP_all (o := e22o1) hC h1 [(0, none)] [] nk rfl; repeat (obtain ⟨rfl, hn⟩ := hn)
    have hn := wayN_all hC (i := 1) rfl [(7, 1), (9, 1)] [] nk rfl; repeat (obtain ⟨rfl, hn⟩ := hn)
    obtain ⟨hB, ht, hu, hm, hr, hk, hb, hq, ho, he, hz, hl, hy⟩ := hF
    have q0 := (hq.below hB hq.lt).cell 0
    have q1 := (hq.below hB hq.lt).cell 1
    refine wpOp_step (o := e22o1) rfl (fun K hK => ?_)
    replace hK := hid hK
    simp only [e22o1, e22T, sel_t, sel_f]
    go_simp
    exact hK.out _ _ (e22M XS XB aB cB aR cR O12 rfl rfl ⟨hB, ht, hu, hm, hr, hk, hb, hq, ho, he, hz, hl, hy⟩)
  · obtain rfl : e22o2 = o := Option.some.inj ho
    obtain rfl : b2 = false := h0
    have hn := wayN_all hC (i := 2) rfl [(4, 2), (6, 4), (7, 6), (9, 2)] [] nk rfl; repeat (obtain ⟨rfl, hn⟩ := hn)
    obtain ⟨hB, ht, hu, hm, hr, hk, hb, hq, ho, he, hz, hl, hy⟩ := hF
    refine wpOp_step (o := e22o2) rfl (fun K hK => ?_)
    replace hK := hid hK
    simp only [e22o2, e22T, sel_f]
    go_simp
    exact hK.out _ _ (e22M XS XB aB cB aR cR O12 rfl rfl ⟨hB, ht, hu, hm, hr, hk, hb, hq, ho, he, hz, hl, hy⟩)
  · obtain rfl : e22o3 = o := Option.some.inj ho
    obtain rfl : b3 = false := h0
    have hn := wayN_all hC (i := 3) rfl [(4, 3), (6, 4), (7, 6), (9, 3)] [] nk rfl; repeat (obtain ⟨rfl, hn⟩ := hn)
    obtain ⟨hB, ht, hu, hm, hr, hk, hb, hq, ho, he, hz, hl, hy⟩ := hF
    refine wpOp_step (o := e22o3) rfl (fun K hK => ?_)
    replace hK := hid hK
    simp only [e22o3, e22T, sel_f]
    go_simp
    exact hK.out _ _ (e22M XS XB aB cB aR cR O12 rfl rfl ⟨hB, ht, hu, hm, hr, hk, hb, hq, ho, he, hz, hl, hy⟩)
  · obtain rfl : e22o4 = o := Option.some.inj ho
    obtain rfl : b4 = false := h0
    have hn := wayP_all (o := e22o4) hC h1 [(3, none), (2, none)] [] nk rfl; repeat (obtain ⟨rfl, hn⟩ := hn)
    have hn := wayN_all hC (i := 4) rfl [(6, 4), (7, 6), (9, 4)] [] nk rfl; repeat (obtain ⟨rfl, hn⟩ := hn)
    obtain ⟨hB, ht, hu, hm, hr, hk, hb, hq, ho, he, hz, hl, hy⟩ := hF
    refine wpOp_step (o := e22o4) rfl (fun K hK => ?_)
    replace hK := hid hK
    simp only [e22o4, e22T, sel_t, sel_f]
    go_simp
    exact hK.out _ _ (e22M w.heap.size XB aB cB aR cR O12 rfl rfl ⟨hB.alloc hB.size _, fun _ _ => own_two w _ hB.size, fun h => (hu h).below ((Below.refl _ _).alloc (Nat.le_refl _) _), hm, fun h => orKeep (hr h) fun g cs _ r => r.alloc _, fun h p hp => orKeep (hk h p hp) fun g cs _ r => r.alloc _, fun h => ⟨(hb h).1, (hb h).2.alloc _⟩, hq, ho, he, hz, hl, hy⟩)
  · obtain rfl : e22o5 = o := Option.some.inj ho
    obtain rfl : b5 = false := h0
    have hn := wayN_all hC (i := 5) rfl [(6, 5), (7, 6), (9, 5)] [] nk rfl; repeat (obtain ⟨rfl, hn⟩ := hn)
    obtain ⟨hB, ht, hu, hm, hr, hk, hb, hq, ho, he, hz, hl, hy⟩ := hF
    refine wpOp_step (o := e22o5) rfl (fun K hK => ?_)
    replace hK := hid hK
    simp only [e22o5, e22T, sel_f]
    go_simp
    exact hK.out _ _ (e22M XS XB aB cB aR cR O12 rfl rfl ⟨hB, ht, hu, hm, hr, hk, hb, hq, ho, he, hz, hl, hy⟩)
  · obtain rfl : e22o6 = o := Option.some.inj ho
    obtain rfl : b6 = false := h0
    have hn := wayP_all (o := e22o6) hC h1 [(5, none), (4, none), (2, some 4), (3, some 4)] [] nk rfl; repeat (obtain ⟨rfl, hn⟩ := hn)
    have hn := wayN_all hC (i := 6) rfl [(7, 6), (9, 6)] [] nk rfl; repeat (obtain ⟨rfl, hn⟩ := hn)
    obtain ⟨hB, ht, hu, hm, hr, hk, hb, hq, ho, he, hz, hl, hy⟩ := hF
    have hO := ht rfl rfl
    have hV := ho.below hB
    refine wpOp_step (o := e22o6) rfl (fun K hK => ?_)
    replace hK := hid hK
    refine step_append_ops P.Wb.heap.size P.bs _ (by rfl) _ _ (by rfl) _ _ (by rfl) hO hB.size P.av P.cv _ P.nn hl.1 (by rfl) hV (by have := hl.2.2; show 2 + _ ≤ _; omega) ?_
    intro a3 c3 w3 hO3 hg3
    exact hK.out _ _ (e22M XS XB a3 c3 aR cR O12 rfl rfl ⟨hB.grown hg3 hB.size (fun g e => (orRow hO e).1), fun _ h => Bool.noConfusion h, fun _ => hO3, hm, fun h => Bool.noConfusion h, fun h => Bool.noConfusion h, fun h => ⟨(hb h).1, ownKeep hO (hb h).2 (by decide) hg3⟩, hq, ho, he, hz, hl, hy⟩)
  · obtain rfl : e22o7 = o := Option.some.inj ho
    obtain rfl : b7 = false := h0
    have hn := wayP_all (o := e22o7) hC h1 [(6, none), (1, none), (4, some 6), (5, some 6), (2, some 4), (3, some 4), (0, some 1)] [] nk rfl; repeat (obtain ⟨rfl, hn⟩ := hn)
    have hn := wayN_all hC (i := 7) rfl [(9, 7)] [] nk rfl; repeat (obtain ⟨rfl, hn⟩ := hn)
    obtain ⟨hB, ht, hu, hm, hr, hk, hb, hq, ho, he, hz, hl, hy⟩ := hF
    have hO := hu rfl
    have KR := e22_run P.ea P.eb P.D P.Z ([opCm, opSc] ++ P.RD) aB cB (P.nn + 2) (by rw [List.length_append]; have := hl.1; show 2 + _ = _; omega) P.D2 P.S2 P.L12 P.m12 hz hl.2.1 hy w (he.1.below hB) (he.2.below hB) hO
    refine wpOp_step (o := e22o7) rfl (fun K hK => ?_)
    replace hK := hid hK
    simp only [e22o7, e22T, sel_t, sel_f]
    go_simp
    go_at_call 8
    refine KR.mono ?_
    rintro e w2 ⟨⟨a3, c3, O3, rfl, hm3, hr3, hk3⟩, hb2⟩
    dsimp only
    exact hK.out _ _ (e22M XS XB aB cB a3 c3 O3 rfl rfl ⟨hB.trans (hb2.mono hB.size), fun _ h => Bool.noConfusion h, fun h => (hu h).below hb2, fun _ => hm3, fun _ => orBase hr3 hB.size, fun _ p hp => orBase (hk3 p hp) hB.size, fun h => ⟨(hb h).1, (hb h).2.below hb2 (hb h).2.lt⟩, hq, ho, he, hz, hl, hy⟩)
  · obtain rfl : e22o8 = o := Option.some.inj ho
    obtain rfl : b8 = false := h0
    have hn := wayN_all hC (i := 8) rfl [(9, 8)] [] nk rfl; repeat (obtain ⟨rfl, hn⟩ := hn)
    obtain ⟨hB, ht, hu, hm, hr, hk, hb, hq, ho, he, hz, hl, hy⟩ := hF
    refine wpOp_step (o := e22o8) rfl (fun K hK => ?_)
    replace hK := hid hK
    simp only [e22o8, e22T, sel_f]
    go_simp
    exact hK.out _ _ (e22M XS w.heap.size aB cB aR cR O12 rfl rfl ⟨hB.alloc hB.size _, fun h h2 => (ht h h2).below ((Below.refl _ _).alloc (Nat.le_refl _) _), fun h => (hu h).below ((Below.refl _ _).alloc (Nat.le_refl _) _), hm, fun h => orKeep (hr h) fun g cs _ r => r.alloc _, fun h p hp => orKeep (hk h p hp) fun g cs _ r => r.alloc _, fun _ => ⟨hB.size, RowAt.new w _ _⟩, hq, ho, he, hz, hl, hy⟩)
  · obtain rfl : e22o9 = o := Option.some.inj ho
    obtain rfl : b9 = false := h0
    have hn := wayP_all (o := e22o9) hC h1 [(8, none), (7, none), (6, none), (5, none), (4, none), (3, none), (2, none), (1, none), (0, none)] [] nk rfl; repeat (obtain ⟨rfl, hn⟩ := hn)
    obtain ⟨hB, ht, hu, hm, hr, hk, hb, hq, ho, he, hz, hl, hy⟩ := hF
    have RB : RowAt w XB 33 #[.string ⟨#[]⟩, .int .i64 0, .slice none 0 0] := (hb rfl).2
    have XL := (hb rfl).1
    have q0 := RB.cell 0
    have q1 := RB.cell 1
    have q2 := RB.cell 2
    have f0 := RB.free 0
    have f1 := RB.free 1
    have f2 := RB.free 2
    refine wpOp_step (o := e22o9) rfl (fun K hK => ?_)
    replace hK := hid hK
    simp only [e22o9, e22T, sel_t]
    go_simp
    exact hK.out _ _ (e22M XS XB aB cB aR cR O12 rfl rfl ⟨(((hB.setCell (p := ⟨XB, 0, none⟩) XL _).setCell (p := ⟨XB, 1, none⟩) XL _).setCell (p := ⟨XB, 2, none⟩) XL _), fun _ h => Bool.noConfusion h, fun h => (ownSet ((ownSet ((ownSet (hu h) RB (by decide))) (RB.set 0 _) (by decide))) ((RB.set 0 _).set 1 _) (by decide)), hm, fun h => (ownSet ((ownSet ((ownSet (hr h) RB (by decide))) (RB.set 0 _) (by decide))) ((RB.set 0 _).set 1 _) (by decide)), fun h p hp => (ownSet ((ownSet ((ownSet (hk h p hp) RB (by decide))) (RB.set 0 _) (by decide))) ((RB.set 0 _).set 1 _) (by decide)), fun _ => ⟨XL, (((RB.set 0 _).set 1 _).set 2 _)⟩, hq, ho, he, hz, hl, hy⟩)
set_option maxRecDepth 20000 in
set_option maxHeartbeats 4000000 in
theorem e22_wp {Q : Exit → Act → World → Prop} {rid : Nat} (Wb : World) (ea eb : Addr) (xr no nn m12 c5 cv bs : Nat) (a5 av : Option Addr) (D D2 : ByteArray) (Z S2 : Int) (RD : List Op) (L12 : List XOt) {s0 s1 s2 s3 s4 s6 s7 s8 s10 s11 s12 s13 s14 s15 s16 s17 s18 s19 s20 s21 s22 s23 s24 s25 s26 s27 s28 s29 s30 s31 s32 s33 s34 s35 s36 s37 s38 s39 s40 s41 s42 s43 s44 s45 s46 s47 s48 s49 s50 s51 s52 s53 s54 s55 s56 s57 s58 s59 s60 s61 s62 s63 s64 s65 s66 s67 s68 s69 s70 s71 s72 s73 s74 s75 s76 s77 s78 s79 s80 s81 s82 s83 s84 s85 s86 s87 s88 s89 s90 s91 s92 s93 s94 s95 s96 s97 s98 s99 s100 s101 s102 s103 s104 s105 s106 s107 s108 s109 s110 s111 s112 s113 s114 s115 s116 s117 s118 s119 s120 s121 s122 s123 s124 s125 s126 s127 s128 s129 s130 s131 s132 s133 s134 s135 s136 s137 s138 s139 s140 s141 s142 s143 s144 s145 s146 s147 s148 s149 s150 s151 s152 s153 s154 s155 s156 s157 s158 s159 s160 s161 s162 s163 s164 s165 s166 s167 s168 s169 s170 s171 s172 s173 s174 s175 s176 s177 s178 s179 s180 s181 s182 s183 s184 s185 s186 s187 s188 s189 s190 s191 s192 s193 s194 s195 s196 s197 s198 s199 s200 s201 s202 s203 s204 s205 s206 s207 s208 s209 s210 : Value} (w : World) (hB : Below Wb.heap.size Wb w) (hq : RowAt Wb xr 33 #[.string D, .int .i64 Z, .slice a5 no c5]) (ho : OwnOp Wb bs (.slice av nn cv) RD) (he : Errs Wb ea eb ∧ TB Wb) (hz : rRes D Z ([opCm, opSc] ++ RD) = ((D2, S2), L12)) (hl : RD.length = nn ∧ L12.length = m12 ∧ nn ≤ 2000) (hy : ∀ j, j < ([opCm, opSc] ++ RD).length → (([opCm, opSc] ++ RD).getD j opZ).ky.size ≤ 1048576 ∧ (([opCm, opSc] ++ RD).getD j opZ).dt.size ≤ 1048576)
    (fin : ∀ (XS : Nat) (XB : Nat) (aB : Option Addr) (cB : Nat) (aR : Option Addr) (cR : Nat) (O12 : List (XOt × Value)) (w' : World), (Below Wb.heap.size Wb w') → (OwnOp w' Wb.heap.size (.slice aB (nn + 2) cB) ([opCm, opSc] ++ RD)) → (O12.map Prod.fst = L12) → (w'.ownsRow Wb.heap.size 36 4 (.slice aR m12 cR) O12.length (xoL O12)) → (∀ p ∈ O12, OwnStrs w' Wb.heap.size p.2 p.1.ks) → (Wb.heap.size ≤ XB ∧ RowAt w' XB 33 (cond true #[.string D2, .int .i64 S2, .slice aR m12 cR] #[.string ⟨#[]⟩, .int .i64 0, .slice none 0 0])) → (RowAt Wb xr 33 #[.string D, .int .i64 Z, .slice a5 no c5]) → (OwnOp Wb bs (.slice av nn cv) RD) → (Errs Wb ea eb ∧ TB Wb) → (rRes D Z ([opCm, opSc] ++ RD) = ((D2, S2), L12)) → (RD.length = nn ∧ L12.length = m12 ∧ nn ≤ 2000) → (∀ j, j < ([opCm, opSc] ++ RD).length → (([opCm, opSc] ++ RD).getD j opZ).ky.size ≤ 1048576 ∧ (([opCm, opSc] ++ RD).getD j opZ).dt.size ≤ 1048576) → Q .normal { tmps := #[s0, s1, s2, s3, s4, .pointer (some ⟨xr, 0, none⟩), s6, s7, s8, .slice av nn cv, s10, s11, .pointer (some ⟨XB, 0, none⟩), s13, s14, s15, s16, s17, s18, s19, s20, s21, s22, s23, s24, s25, s26, s27, s28, s29, s30, s31, s32, s33, s34, s35, s36, s37, s38, s39, s40, s41, s42, s43, s44, s45, s46, s47, s48, s49, s50, s51, s52, s53, s54, s55, s56, s57, s58, s59, s60, s61, s62, s63, s64, s65, s66, s67, s68, s69, s70, s71, s72, s73, s74, s75, s76, s77, s78, s79, s80, s81, s82, s83, s84, s85, s86, s87, s88, s89, s90, s91, s92, s93, s94, s95, s96, s97, s98, s99, s100, s101, s102, s103, s104, s105, s106, s107, s108, s109, s110, s111, s112, s113, s114, s115, s116, s117, s118, s119, s120, s121, s122, s123, s124, s125, s126, s127, s128, s129, s130, s131, s132, s133, s134, s135, s136, s137, s138, s139, s140, s141, s142, .pointer (some ⟨xr, 0, none⟩), .agg #[.string D, .int .i64 Z], .agg #[.int .i64 8, .string ⟨#[]⟩, .string ⟨#[]⟩, .int .i64 0, .int .i64 0, .int .i64 0], .agg #[.int .i64 7, .string ⟨#[]⟩, .string ⟨#[]⟩, .int .i64 0, .int .i64 0, .int .i64 0], .slice (some ⟨XS, 0, none⟩) 2 2, .slice av nn cv, .slice aB (nn + 2) cB, .agg #[.string D2, .int .i64 S2, .slice aR m12 cR], s151, s152, s153, s154, s155, s156, s157, s158, s159, s160, s161, s162, s163, s164, s165, s166, s167, s168, s169, s170, s171, s172, s173, s174, s175, s176, s177, s178, s179, s180, s181, s182, s183, s184, s185, s186, s187, s188, s189, s190, s191, s192, s193, s194, s195, s196, s197, s198, s199, s200, s201, s202, s203, s204, s205, s206, s207, s208, s209, s210], defers := [] } w') :
    (Code.region rid e22O true).wp Tryz.prog Q { tmps := #[s0, s1, s2, s3, s4, .pointer (some ⟨xr, 0, none⟩), s6, s7, s8, .slice av nn cv, s10, s11, s12, s13, s14, s15, s16, s17, s18, s19, s20, s21, s22, s23, s24, s25, s26, s27, s28, s29, s30, s31, s32, s33, s34, s35, s36, s37, s38, s39, s40, s41, s42, s43, s44, s45, s46, s47, s48, s49, s50, s51, s52, s53, s54, s55, s56, s57, s58, s59, s60, s61, s62, s63, s64, s65, s66, s67, s68, s69, s70, s71, s72, s73, s74, s75, s76, s77, s78, s79, s80, s81, s82, s83, s84, s85, s86, s87, s88, s89, s90, s91, s92, s93, s94, s95, s96, s97, s98, s99, s100, s101, s102, s103, s104, s105, s106, s107, s108, s109, s110, s111, s112, s113, s114, s115, s116, s117, s118, s119, s120, s121, s122, s123, s124, s125, s126, s127, s128, s129, s130, s131, s132, s133, s134, s135, s136, s137, s138, s139, s140, s141, s142, s143, s144, s145, s146, s147, s148, s149, s150, s151, s152, s153, s154, s155, s156, s157, s158, s159, s160, s161, s162, s163, s164, s165, s166, s167, s168, s169, s170, s171, s172, s173, s174, s175, s176, s177, s178, s179, s180, s181, s182, s183, s184, s185, s186, s187, s188, s189, s190, s191, s192, s193, s194, s195, s196, s197, s198, s199, s200, s201, s202, s203, s204, s205, s206, s207, s208, s209, s210], defers := [] } w := by
  refine wp_region_inv (ops := e22O) (e22I ⟨Wb, ea, eb, xr, no, nn, m12, c5, cv, bs, a5, av, D, D2, Z, S2, RD, L12, s0, s1, s2, s3, s4, s6, s7, s8, s10, s11, s12, s13, s14, s15, s16, s17, s18, s19, s20, s21, s22, s23, s24, s25, s26, s27, s28, s29, s30, s31, s32, s33, s34, s35, s36, s37, s38, s39, s40, s41, s42, s43, s44, s45, s46, s47, s48, s49, s50, s51, s52, s53, s54, s55, s56, s57, s58, s59, s60, s61, s62, s63, s64, s65, s66, s67, s68, s69, s70, s71, s72, s73, s74, s75, s76, s77, s78, s79, s80, s81, s82, s83, s84, s85, s86, s87, s88, s89, s90, s91, s92, s93, s94, s95, s96, s97, s98, s99, s100, s101, s102, s103, s104, s105, s106, s107, s108, s109, s110, s111, s112, s113, s114, s115, s116, s117, s118, s119, s120, s121, s122, s123, s124, s125, s126, s127, s128, s129, s130, s131, s132, s133, s134, s135, s136, s137, s138, s139, s140, s141, s142, s143, s144, s145, s146, s147, s148, s149, s150, s151, s152, s153, s154, s155, s156, s157, s158, s159, s160, s161, s162, s163, s164, s165, s166, s167, s168, s169, s170, s171, s172, s173, s174, s175, s176, s177, s178, s179, s180, s181, s182, s183, s184, s185, s186, s187, s188, s189, s190, s191, s192, s193, s194, s195, s196, s197, s198, s199, s200, s201, s202, s203, s204, s205, s206, s207, s208, s209, s210⟩) (by kernel_rfl) (by kernel_rfl) (fun l f v hI => ?_) (fun l f v hC hI i h0 o ho h1 => e22_step ⟨Wb, ea, eb, xr, no, nn, m12, c5, cv, bs, a5, av, D, D2, Z, S2, RD, L12, s0, s1, s2, s3, s4, s6, s7, s8, s10, s11, s12, s13, s14, s15, s16, s17, s18, s19, s20, s21, s22, s23, s24, s25, s26, s27, s28, s29, s30, s31, s32, s33, s34, s35, s36, s37, s38, s39, s40, s41, s42, s43, s44, s45, s46, s47, s48, s49, s50, s51, s52, s53, s54, s55, s56, s57, s58, s59, s60, s61, s62, s63, s64, s65, s66, s67, s68, s69, s70, s71, s72, s73, s74, s75, s76, s77, s78, s79, s80, s81, s82, s83, s84, s85, s86, s87, s88, s89, s90, s91, s92, s93, s94, s95, s96, s97, s98, s99, s100, s101, s102, s103, s104, s105, s106, s107, s108, s109, s110, s111, s112, s113, s114, s115, s116, s117, s118, s119, s120, s121, s122, s123, s124, s125, s126, s127, s128, s129, s130, s131, s132, s133, s134, s135, s136, s137, s138, s139, s140, s141, s142, s143, s144, s145, s146, s147, s148, s149, s150, s151, s152, s153, s154, s155, s156, s157, s158, s159, s160, s161, s162, s163, s164, s165, s166, s167, s168, s169, s170, s171, s172, s173, s174, s175, s176, s177, s178, s179, s180, s181, s182, s183, s184, s185, s186, s187, s188, s189, s190, s191, s192, s193, s194, s195, s196, s197, s198, s199, s200, s201, s202, s203, s204, s205, s206, s207, s208, s209, s210⟩ l f v hC hI i h0 o ho h1) (fun l f v hI hall => ?_) ?_
  · obtain ⟨_, _, _, _, _, _, _, _, _, _, _, _, _, _, _, _, _, rfl, _⟩ := hI; rfl
  · obtain ⟨b0, b1, b2, b3, b4, b5, b6, b7, b8, b9, XS, XB, aB, cB, aR, cR, O12, rfl, rfl, hB, ht, hu, hm, hr, hk, hb, hq, ho, he, hz, hl, hy⟩ := hI
    have hn := allT hall [0, 1, 2, 3, 4, 5, 6, 7, 8, 9] rfl; repeat (obtain ⟨rfl, hn⟩ := hn)
    exact fin XS XB aB cB aR cR O12 v hB (hu rfl) (hm rfl) (hr rfl) (hk rfl) (hb rfl) hq ho he hz hl hy
  · exact ⟨false, false, false, false, false, false, false, false, false, false, 0, 0, none, 0, none, 0, [], rfl, rfl, hB.drew, fun h => Bool.noConfusion h, fun h => Bool.noConfusion h, fun h => Bool.noConfusion h, fun h => Bool.noConfusion h, fun h => Bool.noConfusion h, fun h => Bool.noConfusion h, hq, ho, he, hz, hl, hy⟩
end Go.Proofs.YtngkiokibldfjaaGreatDoor
