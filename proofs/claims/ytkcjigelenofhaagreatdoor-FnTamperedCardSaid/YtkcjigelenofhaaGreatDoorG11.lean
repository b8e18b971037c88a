import Derived.Test.YtkcjigelenofhaaGreatDoorRqShl
import Derived.Test.YtkcjigelenofhaaGreatDoorQ1
import Derived.Test.YtkcjigelenofhaaGreatDoorIEsc
import Derived.Test.YtkcjigelenofhaaGreatDoorG3
namespace Go.Proofs.YtkcjigelenofhaaGreatDoor
open Go.RowKit Go.Shelf
theorem infoStr : (Tryz.prog.info? 9).map (fun i => (i.zero, i.size, i.bytes)) = some (some (.string ⟨#[]⟩), 1, 16) := by kernel_rfl
set_option maxRecDepth 20000 in
theorem iDecm (n : Nat) (hn : n ≤ 4102444800) (z : Int) (hz : z = (n : Int)) (w : World) (hT : TB w) :
 Calls Tryz.prog 45 #[.int .i64 z] w fun e w' => e = .returned (.string (ofL (Lib.decDigits n))) ∧ Below w.heap.size w w' := by
 subst hz
 have K := hid (iFmt n hn w hT)
 go_enter Tryz.func45, Tryz.ntmps45
 go_wp2_with fail
 refine K.out.mono ?_
 rintro e w1 ⟨rfl, hb⟩
 have B := hid hb
 clear hb
 go_wp2
 go_ret
 exact ⟨rfl, B.out⟩
def wdQ (o : Nat → Hp) (i : Nat) : ByteArray := ofL (prL (o i))
def qtL (o : Nat → Hp) (n : Nat) : List UInt8 := Lib.join (jl (wdQ o) n) [38]
theorem qtL_len (o : Nat → Hp) : ∀ n, (∀ i, i < n → qyP (o i)) → (qtL o n).length ≤ n * 3302
 | 0, _ => by unfold qtL jl; simp [Lib.join]
 | 1, h => by
  have := prL_len (h 0 (by omega))
  unfold qtL jl wdQ
  simp [Lib.join, ofL_l]
  omega
 | n + 2, h => by
  have h1 := qtL_len o (n + 1) fun i hi => h i (by omega)
  have h2 := prL_len (h (n + 1) (by omega))
  unfold qtL at h1 ⊢
  rw [jl_succ (wdQ o) (n + 1), join_snoc _ _ _ (by unfold jl; simp), List.length_append, List.length_append]
  have e : (wdQ o (n + 1)).data.toList = prL (o (n + 1)) := ofL_l _
  rw [e]
  simp only [List.length_cons, List.length_nil]
  omega
theorem make_strs {P : Program} (W0 w : World) {ops : Array Oper} {rest : List Oper} {o : Oper} {a : Act} {Q : Exit → Act → World → Prop}
 (hg : o.guard = none) (l c : Operand) (t : TypeId) (hop : o.op = Op.makeSlice t l c)
 (ht : P.underlying t = some (.slice 9)) (hinfo : (P.info? 9).map (fun i => (i.zero, i.size, i.bytes)) = some (some (.string ⟨#[]⟩), 1, 16))
 (kl kc : IntKind) (C : Int) (n : Nat) (hl : a.eval l = .int kl 0) (hc : a.eval c = .int kc C) (hC : C = (n : Int)) (hn : n ≤ 1048576) (hbel : Below W0.heap.size W0 w)
 (hK : ∀ w', OwnStrs w' W0.heap.size (.slice (some ⟨w.heap.size, 0, none⟩) 0 n) [] → Below W0.heap.size W0 w' → wpList P ops Q rest (a.put o.dst (.slice (some ⟨w.heap.size, 0, none⟩) 0 n)) w') :
 wpList P ops Q (o :: rest) a w := by
 obtain ⟨i0, hi, hz0, hz1, hz2⟩ := info_parts hinfo
 refine wpList_make_own w hg l c t hop W0.heap.size 9 i0 (.string ⟨#[]⟩) 1 ht hi hz0 hz1 kl kc C n hl hc hC ?_ (by unfold maxLen; omega) hbel.size ?_
 · rw [hz2]; omega
 · intro w' h1 h2
   exact hK w' h1 (hbel.grown h2 hbel.size (by intro k hk; cases hk))
theorem step_append_strs {P : Program} (base : Nat) (w : World) {ops : Array Oper} {op : Oper} {a : Act} {K : Act → World → Prop} {Q : Exit → Act → World → Prop} {E : Prop} (hgd : op.guard = none) (s x : Operand) (t : TypeId)
 (ho : op.op = .call { callee := .builtin .append, args := #[s, x], argTypes := #[t, t] })
 (ht : P.underlying t = some (.slice 9)) (hinfo : (P.info? 9).map (fun i => (i.zero, i.size, i.bytes)) = some (some (.string ⟨#[]⟩), 1, 16))
 (v : Value) (L : List ByteArray) (y : ByteArray) (hs : a.eval s = v) (hown : OwnStrs w base v L) (hsz : base ≤ w.heap.size)
 (b : Nat) (hx : a.eval x = .slice (some ⟨b, 0, none⟩) 1 1) (hbox : w.heap[b]? = some (.cells #[.string y] 9 (0, 0))) (hlen : L.length + 1 ≤ 1048576)
 (h : ∀ g cap w', OwnStrs w' base (.slice (some ⟨g, 0, none⟩) (L.length + 1) cap) (L ++ [y]) → w.grownBy w' v.ownBlock → K (a.put op.dst (.slice (some ⟨g, 0, none⟩) (L.length + 1) cap)) w') :
 if Region.wanted op (yielded ops a.tmps) = true then Oper.wp P op a w K Q else E := by
 obtain ⟨i0, hi, hz0, hz1, hz2⟩ := info_parts hinfo
 have R : RowAt w b 9 #[.string y] := hbox
 refine step_append_lies _ hgd s x t ho base 9 i0 _ 1 16 ht hi hz0 hz1 hz2 rfl (by decide) v L.length (L.map Value.string) hs hown ⟨b, 0, none⟩ 1 1 [.string y] hx rfl ?_ ?_ (by decide) ?_ ?_ hsz w.heap.size rfl ?_
 · intro j u hj
   have hadd : (⟨b, 0, none⟩ : Addr).add j = ⟨b, j, none⟩ := by unfold Addr.add; split <;> simp_all
   rw [hadd, R.cell]
   match j, hj with
   | 0, hj => exact hj
 · intro u hu
   simp at hu
   subst hu
   rfl
 · unfold maxLen; omega
 · omega
 · intro g cap w' h1 h2 _ _
   exact h g cap w' (by unfold OwnStrs; rw [List.map_append, List.length_append]; exact h1) h2
theorem OwnStrs.apart {w : World} {base : Nat} {v : Value} {xs : List ByteArray} {b : Nat} {t : TypeId} {cs : Array Value} (h : OwnStrs w base v xs) (hr : RowAt w b t cs) (ht : t ≠ 9) : some b ≠ v.ownBlock := by
 intro q
 rcases h.2 with ⟨rfl, _⟩ | ⟨g, cap, cur, rfl, _, hg, _⟩
 · simp [Value.ownBlock] at q
 · simp [Value.ownBlock] at q
   subst q
   have := hr.symm.trans hg
   simp at this
   exact ht this.2
end Go.Proofs.YtkcjigelenofhaaGreatDoor
namespace Go.Proofs.YtkcjigelenofhaaGreatDoor
open Go.RowKit Go.Shelf
set_option maxRecDepth 20000 in
set_option maxHeartbeats 400000 in
theorem iJoin0 (a : Option Addr) (c : Nat) (sep : ByteArray) (w : World) :
 Calls Tryz.prog 82 #[.slice a 0 c, .string sep] w fun e w' => e = .returned (.string ⟨#[]⟩) ∧ Below w.heap.size w w' := by
 go_enter Tryz.func82, Tryz.ntmps82
 go_wp2
 go_ret
 exact ⟨rfl, Below.refl _ _⟩
set_option maxRecDepth 20000 in
set_option maxHeartbeats 4000000 in
theorem iQText (a : Option Addr) (n cap : Nat) (o : Nat → Hp) (hn : n ≤ 30) (hq : ∀ i, i < n → qyP (o i)) (w : World) (h : Hps w a n cap o) :
 Calls Tryz.prog 114 #[.slice a n cap] w fun e w' => e = .returned (.string (ofL (qtL o n))) ∧ Below w.heap.size w w' := by
 have HH := hid h
 have HQ := hid hq
 clear h hq
 go_enter Tryz.func114, Tryz.ntmps114
 go_wp2_with (first | (at_make; refine make_strs w w rfl (.const (.int .i64 0)) (.tmp 7) 28 rfl Tryz.underlying28 infoStr .i64 .i64 (n : Int) n rfl rfl rfl (by omega) (Below.refl _ _) ?_) | go_in)
 intro w0 hown0 hbel0
 obtain ⟨V0, hV0⟩ : ∃ V, V = Value.slice (some ⟨w.heap.size, 0, none⟩) 0 n := ⟨_, rfl⟩
 rw [← hV0] at hown0 ⊢
 have HO := hid hown0
 have HB0 := hid hbel0
 clear hV0 hown0 hbel0
 go_wp2_with fail
 go_loopw [3, 11] (fun v q wr => ∃ (V : Value) (k : Nat), V = v ∧ k ≤ n ∧ q = .int .i64 k ∧ OwnStrs wr w.heap.size V ((List.range k).map (wdQ o)) ∧ Below w.heap.size w wr) (fun _ q _ => n - (intOf q).toNat)
 case atStart => exact ⟨V0, 0, rfl, Nat.zero_le _, rfl, HO.out, HB0.out⟩
 case round =>
  obtain ⟨V, k, rfl, hk, rfl, hO, hB⟩ := hrel
  have O := hid hO
  have B := hid hB
  clear hO hB HO HB0
  by_cases hlt : k < n
  · have hlt' : (k : Int) < (n : Int) := by omega
    have k0 : (0 : Int) ≤ (k : Int) := by omega
    rcases (HH.out.below B.out).2 with h00 | ⟨b, off, rfl, hbl, hc⟩
    · omega
    obtain ⟨c0, c1⟩ := hc k hlt
    have s := HQ.out k hlt
    have s0 := s.2.1
    have s1 := s.2.2
    have HS : Hid ((List.range (k + 1)).map (wdQ o) = (List.range k).map (wdQ o) ++ [ofL (prL (o k))]) := by show _ = _; rw [List.range_succ, List.map_append]; rfl
    have HL : Hid (((List.range k).map (wdQ o)).length = k) := by show _ = _; simp
    have hl : ((List.range k).map (wdQ o)).length + 1 ≤ 1048576 := by rw [HL.out]; omega
    obtain ⟨Y, hY⟩ : ∃ Y, o k = Y := ⟨_, rfl⟩
    rw [hY] at c0 c1 s0 s1 HS
    clear hY s hc
    obtain ⟨p0, p1⟩ := Y
    dsimp only at c0 c1 s0 s1
    have K0 := fun wx => hid (iEsc p0 (by omega) wx)
    have K1 := fun wx => hid (iEsc p1 (by omega) wx)
    have l0 : (ofL (escV p0)).size ≤ 3000 := by rw [ofL_size]; have := escV_len p0; omega
    have l1 : (ofL (escV p1)).size ≤ 3000 := by rw [ofL_size]; have := escV_len p1; omega
    have EE : Hid (ofL (escV p0) ++ ⟨#[61]⟩ ++ ofL (escV p1) = ofL (prL ⟨p0, p1⟩)) := ofL_of (by rw [ba_app, ba_app, ofL_l, ofL_l]; rfl)
    obtain ⟨E0, hE0⟩ : ∃ E, E = ofL (escV p0) := ⟨_, rfl⟩
    obtain ⟨E1, hE1⟩ : ∃ E, E = ofL (escV p1) := ⟨_, rfl⟩
    rw [← hE0] at K0 l0 EE
    rw [← hE1] at K1 l1 EE
    clear hE0 hE1
    rw [← EE.out] at HS
    have z0 : ¬ 9223372036854775807 < E0.size + (⟨#[61]⟩ : ByteArray).size := by show ¬ _ < E0.size + 1; omega
    have z1 : ¬ 9223372036854775807 < (E0 ++ ⟨#[61]⟩).size + E1.size := by rw [sizeApp]; show ¬ _ < E0.size + 1 + _; omega
    have z2 : ¬ 9223372036854775807 < E0.size + 1 := by omega
    have z3 : ¬ 9223372036854775807 < E0.size + 1 + E1.size := by omega
    obtain ⟨Z, hZ⟩ : ∃ Z, Z = (List.range k).map (wdQ o) := ⟨_, rfl⟩
    rw [← hZ] at O HS hl HL
    clear hZ
    have J := Jn.box wr 66 #[.string p0, .string p1]
    obtain ⟨W, hW⟩ : ∃ W, W = wr.alloc (.cells #[.string p0, .string p1] 66) := ⟨_, rfl⟩
    have OW : Hid (OwnStrs W w.heap.size V Z) := by rw [hW]; exact O.out.alloc _
    rw [← hW] at J
    obtain ⟨x, hx⟩ : ∃ x, x = wr.heap.size := ⟨_, rfl⟩
    rw [← hx] at J
    have HX := hid hx
    have y0 : W.cell? ⟨x, 0, none⟩ = some (.string p0) := J.out.1.cell 0
    have y1 : W.cell? ⟨x, 1, none⟩ = some (.string p1) := J.out.1.cell 1
    go_upto_region 5 with fail
    rw [← hW, ← hx]
    clear hW hx O c0 c1
    go_region_law (first
     | (go_simp; go_at_call_of 113 (Value.string p0); refine (K0 _).out.mono ?_; rintro e w2 ⟨rfl, hb2⟩; (first | replace OW := hid (OwnStrs.below OW.out hb2) | replace OW := hid (OwnStrs.below (OwnStrs.drew OW.out) hb2)); (first | replace J := Jn.next hb2 J | replace J := Jn.next hb2 (Jn.drew J)); have y0 : w2.cell? ⟨x, 0, none⟩ = some (.string p0) := J.out.1.cell 0; have y1 : w2.cell? ⟨x, 1, none⟩ = some (.string p1) := J.out.1.cell 1; clear hb2; dsimp only)
     | (go_simp; go_at_call_of 113 (Value.string p1); refine (K1 _).out.mono ?_; rintro e w2 ⟨rfl, hb2⟩; (first | replace OW := hid (OwnStrs.below OW.out hb2) | replace OW := hid (OwnStrs.below (OwnStrs.drew OW.out) hb2)); (first | replace J := Jn.next hb2 J | replace J := Jn.next hb2 (Jn.drew J)); have y0 : w2.cell? ⟨x, 0, none⟩ = some (.string p0) := J.out.1.cell 0; have y1 : w2.cell? ⟨x, 1, none⟩ = some (.string p1) := J.out.1.cell 1; clear hb2; dsimp only)
     | (refine step_append_strs w.heap.size _ (by rfl) _ _ 28 (by rfl) Tryz.underlying28 infoStr _ Z (E0 ++ ⟨#[61]⟩ ++ E1) (by rfl) (by first | exact OwnStrs.alloc OW.out _ | exact OwnStrs.drew (OwnStrs.alloc OW.out _) | exact OwnStrs.alloc (OwnStrs.drew OW.out) _) (Nat.le_trans (Nat.le_trans B.out.size J.out.2.size) (by simp)) _ (by rfl) (by exact heap_alloc_new _ _) hl ?_; intro g c3 w3 hO3 hg3; have B3 : Hid (Below w.heap.size w w3) := ((B.out.trans (J.out.2.mono B.out.size)).alloc (Nat.le_trans B.out.size J.out.2.size) _).grown hg3 (Nat.le_trans (Nat.le_trans B.out.size J.out.2.size) (by simp)) (fun j hj => (World.ownsRow.lt OW.out j hj).1); clear hg3))
    all_goals go_wp2
    all_goals
     go_roundw
     case rel => exact ⟨_, k + 1, rfl, by omega, by go_num, by rw [HS.out]; exact hO3, B3.out⟩
     case measure => simp [intOf]; omega
  · have hkn : k = n := by omega
    subst hkn
    obtain ⟨a2, c2, hV⟩ := O.out.slice
    rw [hV] at O ⊢
    clear hV
    have e0 : ((List.range k).map (wdQ o)).length = k := by simp
    rw [e0] at O ⊢
    by_cases hk0 : k = 0
    · subst hk0
      have E : Hid (qtL o 0 = []) := rfl
      go_wp2_with fail
      refine (iJoin0 _ _ _ _).mono ?_
      rintro e w2 ⟨rfl, hb2⟩
      have B2 := hid (B.out.trans (hb2.mono B.out.size))
      go_wp2
      go_ret
      exact ⟨by rw [E.out]; rfl, B2.out⟩
    · obtain ⟨g, rfl, h8, h9, hS⟩ := O.out.strs (ts := wdQ o) (by rw [e0]; omega) (fun i hi => by rw [e0] at hi; rw [List.getElem?_map, List.getElem?_range hi]; rfl)
      have KJ := hid (iJoinC _ k c2 (wdQ o) ⟨#[38]⟩ (by omega) (by omega) (by have := qtL_len o k HQ.out; unfold qtL at this; show (Lib.join _ [38]).length ≤ _; omega) wr hS)
      clear hS O e0 h8 h9
      obtain ⟨QT, hQT⟩ : ∃ Q, Q = ofL (qtL o k) := ⟨_, rfl⟩
      have KJ2 : Hid (Calls Tryz.prog 82 #[.slice (some ⟨g, 0, none⟩) k c2, .string ⟨#[38]⟩] wr fun e w' => e = .returned (.string QT) ∧ Below wr.heap.size wr w') := by rw [hQT]; exact KJ.out
      have HQT := hid hQT
      clear hQT KJ
      go_wp2_with fail
      refine KJ2.out.mono ?_
      rintro e w2 ⟨rfl, hb2⟩
      have B2 := hid (B.out.trans (hb2.mono B.out.size))
      go_wp2
      go_ret
      exact ⟨by rw [← HQT.out]; rfl, B2.out⟩
end Go.Proofs.YtkcjigelenofhaaGreatDoor
