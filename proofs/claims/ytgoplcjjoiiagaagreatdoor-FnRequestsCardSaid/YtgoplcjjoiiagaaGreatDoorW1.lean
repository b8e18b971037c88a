import Derived.Test.YtgoplcjjoiiagaaGreatDoorRqShl
import Derived.Test.YtgoplcjjoiiagaaGreatDoorIReq
import Derived.Test.YtgoplcjjoiiagaaGreatDoorIEsc
import Derived.Test.YtgoplcjjoiiagaaGreatDoorS2
namespace Go.Proofs.YtgoplcjjoiiagaaGreatDoor
open Go.RowKit Go.Shelf
/-! The program's lines of a request. -/
theorem infoStr : (Tryz.prog.info? 9).map (fun i => (i.zero, i.size, i.bytes)) = some (some (.string ⟨#[]⟩), 1, 16) := by kernel_rfl
set_option maxRecDepth 20000 in
theorem iDecm (n : Nat) (hn : n ≤ 4102444800) (z : Int) (hz : z = (n : Int)) (w : World) (hT : TB w) :
    Calls Tryz.prog 24 #[.int .i64 z] w fun e w' => e = .returned (.string (ofL (Lib.decDigits n))) ∧ Below w.heap.size w w' := by
  subst hz
  have K := hid (iFmt n hn w hT)
  go_enter Tryz.func24, Tryz.ntmps24
  go_wp2_with fail
  refine K.out.mono ?_
  rintro e w1 ⟨rfl, hb⟩
  have B := hid hb
  clear hb
  go_wp2
  go_ret
  exact ⟨rfl, B.out⟩
set_option maxRecDepth 20000 in
theorem iHLine (a b : ByteArray) (ha : a.size ≤ 1048576) (hb : b.size ≤ 1048576) (w : World) :
    Calls Tryz.prog 23 #[.string a, .string b] w fun e w' => e = .returned (.string (ofL (a.data.toList ++ [58, 32] ++ b.data.toList ++ [10]))) ∧ w' = w := by
  have E : Hid (a ++ ⟨#[58, 32]⟩ ++ b ++ ⟨#[10]⟩ = ofL (a.data.toList ++ [58, 32] ++ b.data.toList ++ [10])) := ofL_of (by rw [ba_app, ba_app, ba_app])
  have z0 : ¬ 9223372036854775807 < a.size + 2 := by omega
  have z1 : ¬ 9223372036854775807 < a.size + 2 + b.size := by omega
  have z2 : ¬ 9223372036854775807 < a.size + 2 + b.size + 1 := by omega
  go_enter Tryz.func23, Tryz.ntmps23
  go_wp2
  go_ret
  exact ⟨by rw [E.out]; rfl, rfl⟩
def wdQ (o : Nat → Hp) (i : Nat) : ByteArray := ofL (prL (o i))
def qtL (o : Nat → Hp) (n : Nat) : List UInt8 := Lib.join (jl (wdQ o) n) [38]
theorem qyL_join (o : Nat → Hp) : ∀ n, qyL o (n + 1) = 63 :: qtL o (n + 1)
  | 0 => by
    show [] ++ [if (0 : Nat) = 0 then 63 else 38] ++ prL (o 0) = _
    unfold qtL jl wdQ
    simp [Lib.join, ofL_l]
  | n + 1 => by
    show qyL o (n + 1) ++ [if n + 1 = 0 then 63 else 38] ++ prL (o (n + 1)) = _
    rw [qyL_join o n, if_neg (by omega)]
    unfold qtL
    rw [jl_succ (wdQ o) (n + 1), join_snoc _ _ _ (by unfold jl; simp)]
    unfold wdQ
    rw [ofL_l]
    simp
theorem qtL_len (o : Nat → Hp) : ∀ n, (∀ i, i < n → qyP (o i)) → (qtL o n).length ≤ n * 3302
  | 0, _ => by unfold qtL jl; simp [Lib.join]
  | 1, h => by
    have := prL_len (h 0 (by omega))
    unfold qtL jl wdQ
    simp [Lib.join, ofL_l]
    omega
  | n + 2, h => by
    have h1 := qtL_len o (n + 1) fun i hi => h i (by omega)
    have h2 := prL_len (h (n + 1) (by omega))
    unfold qtL at h1 ⊢
    rw [jl_succ (wdQ o) (n + 1), join_snoc _ _ _ (by unfold jl; simp), List.length_append, List.length_append]
    have e : (wdQ o (n + 1)).data.toList = prL (o (n + 1)) := ofL_l _
    rw [e]
    simp only [List.length_cons, List.length_nil]
    omega
/-- 'make([]string, 0, n)'. -/
theorem make_strs {P : Program} (W0 w : World) {ops : Array Oper} {rest : List Oper} {o : Oper} {a : Act} {Q : Exit → Act → World → Prop}
    (hg : o.guard = none) (l c : Operand) (t : TypeId) (hop : o.op = Op.makeSlice t l c)
    (ht : P.underlying t = some (.slice 9)) (hinfo : (P.info? 9).map (fun i => (i.zero, i.size, i.bytes)) = some (some (.string ⟨#[]⟩), 1, 16))
    (kl kc : IntKind) (C : Int) (n : Nat) (hl : a.eval l = .int kl 0) (hc : a.eval c = .int kc C) (hC : C = (n : Int)) (hn : n ≤ 1048576) (hbel : Below W0.heap.size W0 w)
    (hK : ∀ w', OwnStrs w' W0.heap.size (.slice (some ⟨w.heap.size, 0, none⟩) 0 n) [] → Below W0.heap.size W0 w' → wpList P ops Q rest (a.put o.dst (.slice (some ⟨w.heap.size, 0, none⟩) 0 n)) w') :
    wpList P ops Q (o :: rest) a w := by
  obtain ⟨i0, hi, hz0, hz1, hz2⟩ := info_parts hinfo
  refine wpList_make_own w hg l c t hop W0.heap.size 9 i0 (.string ⟨#[]⟩) 1 ht hi hz0 hz1 kl kc C n hl hc hC ?_ (by unfold maxLen; omega) hbel.size ?_
  · rw [hz2]; omega
  · intro w' h1 h2
    exact hK w' h1 (hbel.grown h2 hbel.size (by intro k hk; cases hk))
theorem step_append_strs {P : Program} (base : Nat) (w : World) {ops : Array Oper} {op : Oper} {a : Act} {K : Act → World → Prop} {Q : Exit → Act → World → Prop} {E : Prop} (hgd : op.guard = none) (s x : Operand) (t : TypeId)
    (ho : op.op = .call { callee := .builtin .append, args := #[s, x], argTypes := #[t, t] })
    (ht : P.underlying t = some (.slice 9)) (hinfo : (P.info? 9).map (fun i => (i.zero, i.size, i.bytes)) = some (some (.string ⟨#[]⟩), 1, 16))
    (v : Value) (L : List ByteArray) (y : ByteArray) (hs : a.eval s = v) (hown : OwnStrs w base v L) (hsz : base ≤ w.heap.size)
    (b : Nat) (hx : a.eval x = .slice (some ⟨b, 0, none⟩) 1 1) (hbox : w.heap[b]? = some (.cells #[.string y] 9 (0, 0))) (hlen : L.length + 1 ≤ 1048576)
    (h : ∀ g cap w', OwnStrs w' base (.slice (some ⟨g, 0, none⟩) (L.length + 1) cap) (L ++ [y]) → w.grownBy w' v.ownBlock → K (a.put op.dst (.slice (some ⟨g, 0, none⟩) (L.length + 1) cap)) w') :
    if Region.wanted op (yielded ops a.tmps) = true then Oper.wp P op a w K Q else E := by
  obtain ⟨i0, hi, hz0, hz1, hz2⟩ := info_parts hinfo
  have R : RowAt w b 9 #[.string y] := hbox
  refine step_append_lies _ hgd s x t ho base 9 i0 _ 1 16 ht hi hz0 hz1 hz2 rfl (by decide) v L.length (L.map Value.string) hs hown ⟨b, 0, none⟩ 1 1 [.string y] hx rfl ?_ ?_ (by decide) ?_ ?_ hsz w.heap.size rfl ?_
  · intro j u hj
    have hadd : (⟨b, 0, none⟩ : Addr).add j = ⟨b, j, none⟩ := by unfold Addr.add; split <;> simp_all
    rw [hadd, R.cell]
    match j, hj with
    | 0, hj => exact hj
  · intro u hu
    simp at hu
    subst hu
    rfl
  · unfold maxLen; omega
  · omega
  · intro g cap w' h1 h2 _ _
    exact h g cap w' (by unfold OwnStrs; rw [List.map_append, List.length_append]; exact h1) h2
/-- a row of another type is none of an owned row of texts -/
theorem OwnStrs.apart {w : World} {base : Nat} {v : Value} {xs : List ByteArray} {b : Nat} {t : TypeId} {cs : Array Value} (h : OwnStrs w base v xs) (hr : RowAt w b t cs) (ht : t ≠ 9) : some b ≠ v.ownBlock := by
  intro q
  rcases h.2 with ⟨rfl, _⟩ | ⟨g, cap, cur, rfl, _, hg, _⟩
  · simp [Value.ownBlock] at q
  · simp [Value.ownBlock] at q
    subst q
    have := hr.symm.trans hg
    simp at this
    exact ht this.2
end Go.Proofs.YtgoplcjjoiiagaaGreatDoor
namespace Go.Proofs.YtgoplcjjoiiagaaGreatDoor
open Go.RowKit Go.Shelf
/-! The program's queryText. -/
set_option maxRecDepth 20000 in
set_option maxHeartbeats 400000 in
theorem iJoin0 (a : Option Addr) (c : Nat) (sep : ByteArray) (w : World) :
    Calls Tryz.prog 83 #[.slice a 0 c, .string sep] w fun e w' => e = .returned (.string ⟨#[]⟩) ∧ Below w.heap.size w w' := by
  go_enter Tryz.func83, Tryz.ntmps83
  go_wp2
  go_ret
  exact ⟨rfl, Below.refl _ _⟩
set_option maxRecDepth 20000 in
set_option maxHeartbeats 4000000 in
theorem iQText (a : Option Addr) (n cap : Nat) (o : Nat → Hp) (hn : n ≤ 30) (hq : ∀ i, i < n → qyP (o i)) (w : World) (h : Hps w a n cap o) :
    Calls Tryz.prog 54 #[.slice a n cap] w fun e w' => e = .returned (.string (ofL (qtL o n))) ∧ Below w.heap.size w w' := by
  have HH := hid h
  have HQ := hid hq
  clear h hq
  go_enter Tryz.func54, Tryz.ntmps54
  go_wp2_with (first | (at_make; refine make_strs w w rfl (.const (.int .i64 0)) (.tmp 7) 86 rfl Tryz.underlying86 infoStr .i64 .i64 (n : Int) n rfl rfl rfl (by omega) (Below.refl _ _) ?_) | go_in)
  intro w0 hown0 hbel0
  obtain ⟨V0, hV0⟩ : ∃ V, V = Value.slice (some ⟨w.heap.size, 0, none⟩) 0 n := ⟨_, rfl⟩
  rw [← hV0] at hown0 ⊢
  have HO := hid hown0
  have HB0 := hid hbel0
  clear hV0 hown0 hbel0
  go_wp2_with fail
  go_loopw [3, 11] (fun v q wr => ∃ (V : Value) (k : Nat), V = v ∧ k ≤ n ∧ q = .int .i64 k ∧ OwnStrs wr w.heap.size V ((List.range k).map (wdQ o)) ∧ Below w.heap.size w wr) (fun _ q _ => n - (intOf q).toNat)
  case atStart => exact ⟨V0, 0, rfl, Nat.zero_le _, rfl, HO.out, HB0.out⟩
  case round =>
    obtain ⟨V, k, rfl, hk, rfl, hO, hB⟩ := hrel
    have O := hid hO
    have B := hid hB
    clear hO hB HO HB0
    by_cases hlt : k < n
    · have hlt' : (k : Int) < (n : Int) := by omega
      have k0 : (0 : Int) ≤ (k : Int) := by omega
      rcases (HH.out.below B.out).2 with h00 | ⟨b, off, rfl, hbl, hc⟩
      · omega
      obtain ⟨c0, c1⟩ := hc k hlt
      have s := HQ.out k hlt
      have s0 := s.2.1
      have s1 := s.2.2
      have HS : Hid ((List.range (k + 1)).map (wdQ o) = (List.range k).map (wdQ o) ++ [ofL (prL (o k))]) := by show _ = _; rw [List.range_succ, List.map_append]; rfl
      have HL : Hid (((List.range k).map (wdQ o)).length = k) := by show _ = _; simp
      have hl : ((List.range k).map (wdQ o)).length + 1 ≤ 1048576 := by rw [HL.out]; omega
      obtain ⟨Y, hY⟩ : ∃ Y, o k = Y := ⟨_, rfl⟩
      rw [hY] at c0 c1 s0 s1 HS
      clear hY s hc
      obtain ⟨p0, p1⟩ := Y
      dsimp only at c0 c1 s0 s1
      have K0 := fun wx => hid (iEsc p0 (by omega) wx)
      have K1 := fun wx => hid (iEsc p1 (by omega) wx)
      have l0 : (ofL (escV p0)).size ≤ 3000 := by rw [ofL_size]; have := escV_len p0; omega
      have l1 : (ofL (escV p1)).size ≤ 3000 := by rw [ofL_size]; have := escV_len p1; omega
      have EE : Hid (ofL (escV p0) ++ ⟨#[61]⟩ ++ ofL (escV p1) = ofL (prL ⟨p0, p1⟩)) := ofL_of (by rw [ba_app, ba_app, ofL_l, ofL_l]; rfl)
      obtain ⟨E0, hE0⟩ : ∃ E, E = ofL (escV p0) := ⟨_, rfl⟩
      obtain ⟨E1, hE1⟩ : ∃ E, E = ofL (escV p1) := ⟨_, rfl⟩
      rw [← hE0] at K0 l0 EE
      rw [← hE1] at K1 l1 EE
      clear hE0 hE1
      rw [← EE.out] at HS
      have z0 : ¬ 9223372036854775807 < E0.size + (⟨#[61]⟩ : ByteArray).size := by show ¬ _ < E0.size + 1; omega
      have z1 : ¬ 9223372036854775807 < (E0 ++ ⟨#[61]⟩).size + E1.size := by rw [sizeApp]; show ¬ _ < E0.size + 1 + _; omega
      have z2 : ¬ 9223372036854775807 < E0.size + 1 := by omega
      have z3 : ¬ 9223372036854775807 < E0.size + 1 + E1.size := by omega
      obtain ⟨Z, hZ⟩ : ∃ Z, Z = (List.range k).map (wdQ o) := ⟨_, rfl⟩
      rw [← hZ] at O HS hl HL
      clear hZ
      have J := Jn.box wr 54 #[.string p0, .string p1]
      obtain ⟨W, hW⟩ : ∃ W, W = wr.alloc (.cells #[.string p0, .string p1] 54) := ⟨_, rfl⟩
      have OW : Hid (OwnStrs W w.heap.size V Z) := by rw [hW]; exact O.out.alloc _
      rw [← hW] at J
      obtain ⟨x, hx⟩ : ∃ x, x = wr.heap.size := ⟨_, rfl⟩
      rw [← hx] at J
      have HX := hid hx
      have y0 : W.cell? ⟨x, 0, none⟩ = some (.string p0) := J.out.1.cell 0
      have y1 : W.cell? ⟨x, 1, none⟩ = some (.string p1) := J.out.1.cell 1
      go_upto_region 5 with fail
      rw [← hW, ← hx]
      clear hW hx O c0 c1
      go_region_law (first
        | (go_simp; go_at_call_of 10 (Value.string p0); refine (K0 _).out.mono ?_; rintro e w2 ⟨rfl, hb2⟩; (first | replace OW := hid (OwnStrs.below OW.out hb2) | replace OW := hid (OwnStrs.below (OwnStrs.drew OW.out) hb2)); (first | replace J := Jn.next hb2 J | replace J := Jn.next hb2 (Jn.drew J)); have y0 : w2.cell? ⟨x, 0, none⟩ = some (.string p0) := J.out.1.cell 0; have y1 : w2.cell? ⟨x, 1, none⟩ = some (.string p1) := J.out.1.cell 1; clear hb2; dsimp only)
        | (go_simp; go_at_call_of 10 (Value.string p1); refine (K1 _).out.mono ?_; rintro e w2 ⟨rfl, hb2⟩; (first | replace OW := hid (OwnStrs.below OW.out hb2) | replace OW := hid (OwnStrs.below (OwnStrs.drew OW.out) hb2)); (first | replace J := Jn.next hb2 J | replace J := Jn.next hb2 (Jn.drew J)); have y0 : w2.cell? ⟨x, 0, none⟩ = some (.string p0) := J.out.1.cell 0; have y1 : w2.cell? ⟨x, 1, none⟩ = some (.string p1) := J.out.1.cell 1; clear hb2; dsimp only)
        | (refine step_append_strs w.heap.size _ (by rfl) _ _ 86 (by rfl) Tryz.underlying86 infoStr _ Z (E0 ++ ⟨#[61]⟩ ++ E1) (by rfl) (by first | exact OwnStrs.alloc OW.out _ | exact OwnStrs.drew (OwnStrs.alloc OW.out _) | exact OwnStrs.alloc (OwnStrs.drew OW.out) _) (Nat.le_trans (Nat.le_trans B.out.size J.out.2.size) (by simp)) _ (by rfl) (by exact heap_alloc_new _ _) hl ?_; intro g c3 w3 hO3 hg3; have B3 : Hid (Below w.heap.size w w3) := ((B.out.trans (J.out.2.mono B.out.size)).alloc (Nat.le_trans B.out.size J.out.2.size) _).grown hg3 (Nat.le_trans (Nat.le_trans B.out.size J.out.2.size) (by simp)) (fun j hj => (World.ownsRow.lt OW.out j hj).1); clear hg3))
      all_goals go_wp2
      all_goals
        go_roundw
        case rel => exact ⟨_, k + 1, rfl, by omega, by go_num, by rw [HS.out]; exact hO3, B3.out⟩
        case measure => simp [intOf]; omega
    · have hkn : k = n := by omega
      subst hkn
      obtain ⟨a2, c2, hV⟩ := O.out.slice
      rw [hV] at O ⊢
      clear hV
      have e0 : ((List.range k).map (wdQ o)).length = k := by simp
      rw [e0] at O ⊢
      by_cases hk0 : k = 0
      · subst hk0
        have E : Hid (qtL o 0 = []) := rfl
        go_wp2_with fail
        refine (iJoin0 _ _ _ _).mono ?_
        rintro e w2 ⟨rfl, hb2⟩
        have B2 := hid (B.out.trans (hb2.mono B.out.size))
        go_wp2
        go_ret
        exact ⟨by rw [E.out]; rfl, B2.out⟩
      · obtain ⟨g, rfl, h8, h9, hS⟩ := O.out.strs (ts := wdQ o) (by rw [e0]; omega) (fun i hi => by rw [e0] at hi; rw [List.getElem?_map, List.getElem?_range hi]; rfl)
        have KJ := hid (iJoinC _ k c2 (wdQ o) ⟨#[38]⟩ (by omega) (by omega) (by have := qtL_len o k HQ.out; unfold qtL at this; show (Lib.join _ [38]).length ≤ _; omega) wr hS)
        clear hS O e0 h8 h9
        obtain ⟨QT, hQT⟩ : ∃ Q, Q = ofL (qtL o k) := ⟨_, rfl⟩
        have KJ2 : Hid (Calls Tryz.prog 83 #[.slice (some ⟨g, 0, none⟩) k c2, .string ⟨#[38]⟩] wr fun e w' => e = .returned (.string QT) ∧ Below wr.heap.size wr w') := by rw [hQT]; exact KJ.out
        have HQT := hid hQT
        clear hQT KJ
        go_wp2_with fail
        refine KJ2.out.mono ?_
        rintro e w2 ⟨rfl, hb2⟩
        have B2 := hid (B.out.trans (hb2.mono B.out.size))
        go_wp2
        go_ret
        exact ⟨by rw [← HQT.out]; rfl, B2.out⟩
end Go.Proofs.YtgoplcjjoiiagaaGreatDoor
namespace Go.Proofs.YtgoplcjjoiiagaaGreatDoor
open Go.RowKit Go.Shelf
/-! The program's firstLine, WriteRequest. -/
def fsL (r : Rq) : List UInt8 := r.mt.data.toList ++ [32] ++ escV r.pt ++ qyL r.qs.o r.qs.n ++ [10]
set_option maxRecDepth 20000 in
set_option maxHeartbeats 4000000 in
theorem iFstL (r : Rq) (hr : rqP r) (w : World) (h : RqIn w r) :
    Calls Tryz.prog 22 #[.agg #[.string r.mt, .string r.pt, .slice r.qs.ad r.qs.n r.qs.cap, .slice r.hs.ad r.hs.n r.hs.cap, .string r.bd]] w fun e w' => e = .returned (.string (ofL (fsL r))) ∧ Below w.heap.size w w' := by
  obtain ⟨mt, pt, ⟨a1, n1, c1, o1⟩, ⟨a2, n2, c2, o2⟩, bd⟩ := r
  dsimp only
  have hm := hr.1.2.1
  have hp : pt.size ≤ 1000 := hr.2.1.2.1
  have q1 := hr.2.2.1.1
  have SQ := hid hr.2.2.2.2.2.1
  dsimp only at hm q1 SQ
  have J := Jn.box w 25 #[.string mt, .string pt, .slice a1 n1 c1, .slice a2 n2 c2, .string bd]
  have HQ := hid h.qs
  dsimp only at HQ
  clear h hr
  obtain ⟨W0, hW0⟩ : ∃ W, W = w.alloc (.cells #[.string mt, .string pt, .slice a1 n1 c1, .slice a2 n2 c2, .string bd] 25) := ⟨_, rfl⟩
  rw [← hW0] at J
  have K0 := fun wx => hid (iEsc pt (by omega) wx)
  have KQ := fun wx hx => hid (iQText a1 n1 c1 o1 q1 SQ.out wx hx)
  have QL := qtL_len o1 n1 SQ.out
  have l0 : (ofL (escV pt)).size ≤ 3000 := by rw [ofL_size]; have := escV_len pt; omega
  have EE : Hid ((mt ++ ⟨#[32]⟩ ++ ofL (escV pt)).data.toList = mt.data.toList ++ [32] ++ escV pt) := by show _ = _; rw [ba_app, ba_app, ofL_l]
  obtain ⟨E0, hE0⟩ : ∃ E, E = ofL (escV pt) := ⟨_, rfl⟩
  rw [← hE0] at K0 l0 EE
  clear hE0
  have S0 : Hid ((mt ++ ⟨#[32]⟩ ++ E0).size ≤ 3100) := by show _ ≤ _; rw [sizeApp, sizeApp]; show mt.size + 1 + _ ≤ _; omega
  have z0 : ¬ 9223372036854775807 < mt.size + 1 := by omega
  have z1 : ¬ 9223372036854775807 < mt.size + 1 + E0.size := by omega
  have y0 : W0.cell? ⟨w.heap.size, 0, none⟩ = some (.string mt) := J.out.1.cell 0
  have y1 : W0.cell? ⟨w.heap.size, 1, none⟩ = some (.string pt) := J.out.1.cell 1
  have FN0 : Hid (n1 = 0 → ∀ T : ByteArray, T.data.toList = mt.data.toList ++ [32] ++ escV pt → T ++ ⟨#[10]⟩ = ofL (fsL ⟨mt, pt, ⟨a1, n1, c1, o1⟩, ⟨a2, n2, c2, o2⟩, bd⟩)) := fun h0 T hT => ofL_of (by subst h0; rw [ba_app, hT]; unfold fsL qyL; simp)
  have FN1 : Hid (n1 ≠ 0 → ∀ T : ByteArray, T.data.toList = mt.data.toList ++ [32] ++ escV pt → T ++ (⟨#[63]⟩ ++ ofL (qtL o1 n1)) ++ ⟨#[10]⟩ = ofL (fsL ⟨mt, pt, ⟨a1, n1, c1, o1⟩, ⟨a2, n2, c2, o2⟩, bd⟩)) := fun h0 T hT => ofL_of (by
    obtain ⟨n, rfl⟩ : ∃ n, n1 = n + 1 := ⟨n1 - 1, by omega⟩
    rw [ba_app, ba_app, ba_app, hT, ofL_l]
    unfold fsL
    rw [qyL_join]
    simp)
  rw [← ofL_size] at QL
  obtain ⟨QT, hQT⟩ : ∃ Q, Q = ofL (qtL o1 n1) := ⟨_, rfl⟩
  rw [← hQT] at KQ QL FN1
  obtain ⟨RS, hRS⟩ : ∃ Q, Q = ofL (fsL ⟨mt, pt, ⟨a1, n1, c1, o1⟩, ⟨a2, n2, c2, o2⟩, bd⟩) := ⟨_, rfl⟩
  rw [← hRS] at FN0 FN1 ⊢
  clear hQT hRS
  go_enter Tryz.func22, Tryz.ntmps22
  go_upto_region 1 with fail
  rw [← hW0]
  clear hW0
  go_region_held3 (fun wx => wx.cell? ⟨w.heap.size, 0, none⟩ = some (.string mt) ∧ wx.cell? ⟨w.heap.size, 1, none⟩ = some (.string pt))
    (first | with_reducible exact ⟨y0, y1⟩ | exact ⟨J.out.1.cell 0, J.out.1.cell 1⟩)
    ((go_at_call_of 10 (Value.string pt); refine (K0 _).out.mono ?_; rintro e w2 ⟨rfl, hb2⟩; (first | replace J := Jn.next hb2 J | replace J := Jn.next hb2 (Jn.drew J)); replace y0 := J.out.1.cell 0; replace y1 := J.out.1.cell 1; clear hb2))
  clear y0 y1 z0 z1 K0
  have x2 : w2.cell? ⟨w.heap.size, 2, none⟩ = some (.slice a1 n1 c1) := J.out.1.cell 2
  have S0' : (mt ++ ⟨#[32]⟩ ++ E0).size ≤ 3100 := S0.out
  generalize mt ++ ⟨#[32]⟩ ++ E0 = T0 at EE S0' ⊢
  clear l0 S0
  by_cases hn0 : n1 = 0
  · have F := hid (FN0.out hn0 T0 EE.out)
    have d0 : ¬ (0 : Int) < (n1 : Int) := by omega
    have d1 : ¬ 0 < n1 := by omega
    have z1 : ¬ 9223372036854775807 < T0.size + 1 := by omega
    clear hn0 FN0 FN1 EE
    go_wp2
    go_ret
    exact ⟨by rw [← F.out]; rfl, J.out.2⟩
  · have F := hid (FN1.out hn0 T0 EE.out)
    have d0 : (0 : Int) < (n1 : Int) := by omega
    have d1 : 0 < n1 := by omega
    have z1 : ¬ 9223372036854775807 < T0.size + (1 + QT.size) := by omega
    have z2 : ¬ 9223372036854775807 < 1 + QT.size := by omega
    have z3 : ¬ 9223372036854775807 < T0.size + (1 + QT.size) + 1 := by omega
    clear hn0 FN0 FN1 EE
    go_wp2_with fail
    refine (KQ _ (HQ.out.below J.out.2)).out.mono ?_
    rintro e w3 ⟨rfl, hb3⟩
    have J3 := Jn.next hb3 J
    clear hb3 x2 J
    go_wp2
    go_ret
    exact ⟨by rw [← F.out]; rfl, J3.out.2⟩
end Go.Proofs.YtgoplcjjoiiagaaGreatDoor
namespace Go.Proofs.YtgoplcjjoiiagaaGreatDoor
open Go.RowKit Go.Shelf
/-! The program's WriteRequest. -/
theorem Jn.nextB {W X w2 : World} {b : Nat} {t : TypeId} {cs : Array Value} {B : Nat} (hb : Below B X w2) (J : Hid (Jn W X b t cs)) (h1 : b < B) (h2 : W.heap.size ≤ B) : Hid (Jn W w2 b t cs) :=
  ⟨(hb.block b h1).trans J.out.1, J.out.2.trans (hb.mono h2)⟩
theorem hdL_len (o : Nat → Hp) : ∀ n, (∀ i, i < n → hdP (o i)) → (hdL o n).length ≤ n * 1063
  | 0, _ => by simp [hdL]
  | n + 1, h => by
    have h1 := hdL_len o n fun i hi => h i (by omega)
    have h2 := (h n (by omega)).1.2.1
    have h3 := (h n (by omega)).2.1
    have e1 : (o n).nm.data.toList.length = (o n).nm.size := by simp
    have e2 : (o n).vl.data.toList.length = (o n).vl.size := by simp
    unfold hdL
    simp only [List.length_append, List.length_cons, List.length_nil]
    omega
theorem fsL_len {r : Rq} (h : rqP r) : (fsL r).length ≤ 110000 := by
  have hm := h.1.2.1
  have hp : r.pt.size ≤ 1000 := h.2.1.2.1
  have q1 := h.2.2.1.1
  have e1 : r.mt.data.toList.length = r.mt.size := by simp
  have e2 := escV_len r.pt
  have e3 : (qyL r.qs.o r.qs.n).length ≤ 100000 := by
    cases hn : r.qs.n with
    | zero => simp [qyL]
    | succ n =>
      rw [qyL_join]
      have := qtL_len r.qs.o (n + 1) (by rw [← hn]; exact h.2.2.2.2.2.1)
      simp only [List.length_cons]
      omega
  unfold fsL
  simp only [List.length_append, List.length_cons, List.length_nil]
  omega
set_option maxRecDepth 20000 in
set_option maxHeartbeats 4000000 in
theorem iWrq (r : Rq) (hb : RqB r 1048576) (w : World) (hT : TB w) (h : RqIn w r) :
    Calls Tryz.prog 6 #[r.v] w fun e w' => e = .returned (.string (ofL (wrqL r))) ∧ Below w.heap.size w w' := by
  have KF := fun wx hx => hid (iRqF r hb wx hx)
  have HT := hid hT
  clear hT
  by_cases hr : rqP r
  case neg =>
    have E : Hid (wrqL r = []) := by show _ = _; unfold wrqL; rw [pb_f hr]; rfl
    have V : rqV r = 1 := rqV_f hr
    rw [V] at KF
    clear hr V hb
    obtain ⟨mt, pt, ⟨a1, n1, c1, o1⟩, ⟨a2, n2, c2, o2⟩, bd⟩ := r
    have HI := hid h
    clear h
    have KF2 : ∀ wx, RqIn wx ⟨mt, pt, ⟨a1, n1, c1, o1⟩, ⟨a2, n2, c2, o2⟩, bd⟩ → Hid (Calls Tryz.prog 11 #[.agg #[.string mt, .string pt, .slice a1 n1 c1, .slice a2 n2 c2, .string bd]] wx fun e w' => e = .returned (.int .i64 1) ∧ Below wx.heap.size wx w') := KF
    clear KF
    have J := Jn.box w 25 #[.string mt, .string pt, .slice a1 n1 c1, .slice a2 n2 c2, .string bd]
    obtain ⟨W0, hW0⟩ : ∃ W, W = w.alloc (.cells #[.string mt, .string pt, .slice a1 n1 c1, .slice a2 n2 c2, .string bd] 25) := ⟨_, rfl⟩
    rw [← hW0] at J
    show Calls Tryz.prog 6 #[.agg #[.string mt, .string pt, .slice a1 n1 c1, .slice a2 n2 c2, .string bd]] w _
    go_enter Tryz.func6, Tryz.ntmps6
    go_wp2_with fail
    rw [← hW0]
    clear hW0
    refine (KF2 _ (HI.out.below J.out.2)).out.mono ?_
    rintro e w2 ⟨rfl, hb2⟩
    have J2 := Jn.next hb2 J
    clear hb2 J
    go_wp2
    go_ret
    exact ⟨by rw [E.out]; rfl, J2.out.2⟩
  have E : Hid (wrqL r = fsL r ++ hdL r.hs.o r.hs.n ++ ([108, 101, 110, 103, 116, 104] ++ [58, 32] ++ Lib.decDigits r.bd.size ++ [10]) ++ [10] ++ r.bd.data.toList) := by
    show _ = _
    unfold wrqL headL fsL
    rw [pb_t hr]
    simp
  have V : rqV r = 0 := rqV_t hr
  rw [V] at KF
  have KL := fun wx hx => hid (iFstL r hr wx hx)
  have FL := hid (fsL_len hr)
  have hbd := hr.2.2.2.2.1
  have q2 := hr.2.2.2.1.1
  have SH := hid hr.2.2.2.2.2.2
  clear hr V hb
  obtain ⟨mt, pt, ⟨a1, n1, c1, o1⟩, ⟨a2, n2, c2, o2⟩, bd⟩ := r
  dsimp only at hbd q2 SH E
  have HL := hid (hdL_len o2 n2 SH.out)
  have HI := hid h
  have HN := hid h.hs
  dsimp only at HN
  clear h
  have KF2 : ∀ wx, RqIn wx ⟨mt, pt, ⟨a1, n1, c1, o1⟩, ⟨a2, n2, c2, o2⟩, bd⟩ → Hid (Calls Tryz.prog 11 #[.agg #[.string mt, .string pt, .slice a1 n1 c1, .slice a2 n2 c2, .string bd]] wx fun e w' => e = .returned (.int .i64 0) ∧ Below wx.heap.size wx w') := KF
  generalize hFS : fsL ⟨mt, pt, ⟨a1, n1, c1, o1⟩, ⟨a2, n2, c2, o2⟩, bd⟩ = FS at KL FL E
  have KL2 : ∀ wx, RqIn wx ⟨mt, pt, ⟨a1, n1, c1, o1⟩, ⟨a2, n2, c2, o2⟩, bd⟩ → Hid (Calls Tryz.prog 22 #[.agg #[.string mt, .string pt, .slice a1 n1 c1, .slice a2 n2 c2, .string bd]] wx fun e w' => e = .returned (.string (ofL FS)) ∧ Below wx.heap.size wx w') := KL
  clear KF KL hFS
  have LFS : Hid ((ofL FS).data.toList = FS ∧ (ofL FS).size ≤ 110000) := ⟨ofL_l _, by rw [ofL_size]; exact FL.out⟩
  generalize ofL FS = F0 at KL2 LFS
  have DLEN := dec_len bd.size (by omega)
  have KD := fun wx hx => hid (iDecm bd.size (by omega) (bd.size : Int) rfl wx hx)
  have LD : Hid ((ofL (Lib.decDigits bd.size)).data.toList = Lib.decDigits bd.size) := ofL_l _
  generalize ofL (Lib.decDigits bd.size) = DD at KD LD DLEN
  have KH := fun wx => hid (iHLine ⟨#[108, 101, 110, 103, 116, 104]⟩ DD (by decide) (by omega) wx)
  have LH : Hid ((ofL ((⟨#[108, 101, 110, 103, 116, 104]⟩ : ByteArray).data.toList ++ [58, 32] ++ DD.data.toList ++ [10])).data.toList = [108, 101, 110, 103, 116, 104] ++ [58, 32] ++ Lib.decDigits bd.size ++ [10] ∧ (ofL ((⟨#[108, 101, 110, 103, 116, 104]⟩ : ByteArray).data.toList ++ [58, 32] ++ DD.data.toList ++ [10])).size ≤ 1000) := by
    have e : DD.data.toList.length = DD.size := by simp
    exact ⟨by rw [ofL_l, LD.out], by rw [ofL_size]; simp only [List.length_append, List.length_cons, List.length_nil]; omega⟩
  generalize ofL ((⟨#[108, 101, 110, 103, 116, 104]⟩ : ByteArray).data.toList ++ [58, 32] ++ DD.data.toList ++ [10]) = LN at KH LH
  have J := Jn.box w 25 #[.string mt, .string pt, .slice a1 n1 c1, .slice a2 n2 c2, .string bd]
  obtain ⟨W0, hW0⟩ : ∃ W, W = w.alloc (.cells #[.string mt, .string pt, .slice a1 n1 c1, .slice a2 n2 c2, .string bd] 25) := ⟨_, rfl⟩
  rw [← hW0] at J
  show Calls Tryz.prog 6 #[.agg #[.string mt, .string pt, .slice a1 n1 c1, .slice a2 n2 c2, .string bd]] w _
  obtain ⟨RS, hRS⟩ : ∃ Q, Q = ofL (wrqL ⟨mt, pt, ⟨a1, n1, c1, o1⟩, ⟨a2, n2, c2, o2⟩, bd⟩) := ⟨_, rfl⟩
  rw [← hRS]
  have HRS := hid hRS
  clear hRS
  go_enter Tryz.func6, Tryz.ntmps6
  go_wp2_with fail
  rw [← hW0]
  clear hW0
  refine (KF2 _ (HI.out.below J.out.2)).out.mono ?_
  rintro e w1 ⟨rfl, hb1⟩
  replace J := Jn.next hb1 J
  clear hb1
  obtain ⟨b, hb⟩ : ∃ b, b = w1.heap.size := ⟨_, rfl⟩
  obtain ⟨W1, hW1⟩ : ∃ W, W = w1.alloc (.cells #[.pointer none, .slice none 0 0] 48) := ⟨_, rfl⟩
  have N1 : Hid (Bld b b [] W1) := by rw [hW1, hb]; exact bldNew w1
  have BW1 : Hid (Below w1.heap.size w1 W1) := by rw [hW1]; exact (Below.refl _ _).alloc (Nat.le_refl _) _
  have J1 := Jn.next BW1.out J
  have hbR : w.heap.size < b := by rw [hb]; exact J.out.1.lt
  have bz1 : b ≤ W1.heap.size := by rw [hb]; exact BW1.out.size
  have hbW : w.heap.size ≤ b := by omega
  have x0 : W1.cell? ⟨w.heap.size, 0, none⟩ = some (.string mt) := J1.out.1.cell 0
  have x1 : W1.cell? ⟨w.heap.size, 1, none⟩ = some (.string pt) := J1.out.1.cell 1
  have x2 : W1.cell? ⟨w.heap.size, 2, none⟩ = some (.slice a1 n1 c1) := J1.out.1.cell 2
  have x3 : W1.cell? ⟨w.heap.size, 3, none⟩ = some (.slice a2 n2 c2) := J1.out.1.cell 3
  have x4 : W1.cell? ⟨w.heap.size, 4, none⟩ = some (.string bd) := J1.out.1.cell 4
  go_upto_region 4 with fail
  rw [← hW1, ← hb]
  clear hW1 hb BW1 J KF2
  go_wp2_with fail
  refine (KL2 _ (HI.out.below J1.out.2)).out.mono ?_
  rintro e w2 ⟨rfl, hb2⟩
  have J2 := Jn.next hb2 J1
  have N2 := hid (N1.out.below hb2)
  have bz2 : b ≤ w2.heap.size := Nat.le_trans bz1 hb2.size
  clear hb2 J1 N1 x0 x1 x2 x3 x4 KL2
  go_wp2_with fail
  refine (bldWrite b b [] F0 w2 N2.out (by have := LFS.out.2; simp; omega) bz2).mono ?_
  rintro e w3 ⟨rfl, hN3, hb3⟩
  rw [LFS.out.1, List.nil_append] at hN3
  have N3 := hid hN3
  have J3 := Jn.nextB hb3 J2 hbR hbW
  have bz3 : b ≤ w3.heap.size := Nat.le_trans bz2 hb3.size
  have x3 : w3.cell? ⟨w.heap.size, 3, none⟩ = some (.slice a2 n2 c2) := J3.out.1.cell 3
  clear hN3 hb3 N2 J2
  go_wp2_with fail
  go_loopw [15] (fun i wr => ∃ k : Nat, k ≤ n2 ∧ i = .int .i64 (k : Int) ∧ Bld b b (FS ++ hdL o2 k) wr ∧ Jn w wr w.heap.size 25 #[.string mt, .string pt, .slice a1 n1 c1, .slice a2 n2 c2, .string bd] ∧ b ≤ wr.heap.size) (fun i _ => n2 - (intOf i).toNat)
  case atStart => exact ⟨0, Nat.zero_le _, rfl, by simpa [hdL] using N3.out, J3.out, bz3⟩
  case round =>
    obtain ⟨k, hk, rfl, hN, hJ, hbz⟩ := hrel
    have N := hid hN
    have J := hid hJ
    clear hN hJ N3 J3 bz3 x3
    have FLo := FL.out
    by_cases hlt : k < n2
    · have d3 : (k : Int) < (n2 : Int) := by omega
      have k0 : (0 : Int) ≤ (k : Int) := by omega
      rcases (HN.out.below J.out.2).2 with h00 | ⟨bx, off, rfl, hbl, hc⟩
      · omega
      obtain ⟨c0, c1'⟩ := hc k hlt
      have LK := hdL_len o2 k fun i hi => SH.out i (by omega)
      have s0 := (SH.out k hlt).1.2.1
      have s1 := (SH.out k hlt).2.1
      have HS : Hid (hdL o2 (k + 1) = hdL o2 k ++ ((o2 k).nm.data.toList ++ [58, 32] ++ (o2 k).vl.data.toList ++ [10])) := by show _ = _; show hdL o2 k ++ _ ++ _ ++ _ ++ _ = _; simp
      obtain ⟨Y, hY⟩ : ∃ Y, o2 k = Y := ⟨_, rfl⟩
      rw [hY] at c0 c1' s0 s1 HS
      clear hY hc
      obtain ⟨p0, p1⟩ := Y
      dsimp only at c0 c1' s0 s1 HS
      have KP := fun wx => hid (iHLine p0 p1 (by omega) (by omega) wx)
      have LP : Hid ((ofL (p0.data.toList ++ [58, 32] ++ p1.data.toList ++ [10])).data.toList = p0.data.toList ++ [58, 32] ++ p1.data.toList ++ [10] ∧ (ofL (p0.data.toList ++ [58, 32] ++ p1.data.toList ++ [10])).size ≤ 2000) := by
        have e1 : p0.data.toList.length = p0.size := by simp
        have e2 : p1.data.toList.length = p1.size := by simp
        exact ⟨ofL_l _, by rw [ofL_size]; simp only [List.length_append, List.length_cons, List.length_nil]; omega⟩
      generalize ofL (p0.data.toList ++ [58, 32] ++ p1.data.toList ++ [10]) = PL at KP LP
      obtain ⟨W2, hW2⟩ : ∃ W, W = wr.alloc (.cells #[.string p0, .string p1] 54) := ⟨_, rfl⟩
      have BA : Hid (Below wr.heap.size wr W2) := by rw [hW2]; exact (Below.refl _ _).alloc (Nat.le_refl _) _
      have J2 := Jn.next BA.out J
      have N2 := hid (N.out.below BA.out)
      have z2 : b ≤ W2.heap.size := Nat.le_trans hbz BA.out.size
      clear BA
      go_wp2_with fail
      refine (KP _).out.mono ?_
      rintro e w3 ⟨rfl, hw⟩
      obtain rfl := hw.symm
      rw [← hW2]
      clear hW2 c0 c1' J N
      go_wp2_with fail
      refine (bldWrite b b _ PL W2 N2.out (by have := LP.out.2; rw [List.length_append]; omega) z2).mono ?_
      rintro e w4 ⟨rfl, hN4, hb4⟩
      rw [LP.out.1, List.append_assoc, ← HS.out] at hN4
      have N4 := hid hN4
      have J4 := Jn.nextB hb4 J2 hbR hbW
      have z4 : b ≤ w4.heap.size := Nat.le_trans z2 hb4.size
      clear hN4 hb4 J2 N2
      go_wp2
      go_roundw
      case rel => exact ⟨k + 1, by omega, by go_num, N4.out, J4.out, z4⟩
      case measure => simp [intOf]; omega
    · have d3 : ¬ (k : Int) < (n2 : Int) := by omega
      have ek : k = n2 := by omega
      subst ek
      have HLo := HL.out
      have x4 : wr.cell? ⟨w.heap.size, 4, none⟩ = some (.string bd) := J.out.1.cell 4
      go_wp2_with fail
      refine (KD _ (HT.out.below J.out.2)).out.mono ?_
      rintro e w3 ⟨rfl, hb3⟩
      have J3 := Jn.next hb3 J
      have N3 := hid (N.out.below hb3)
      have z3 : b ≤ w3.heap.size := Nat.le_trans hbz hb3.size
      clear hb3 J N x4
      go_wp2_with fail
      refine (KH _).out.mono ?_
      rintro e w4 ⟨rfl, hw⟩
      obtain rfl := hw.symm
      go_wp2_with fail
      refine (bldWrite b b _ LN w3 N3.out (by have := LH.out.2; rw [List.length_append]; omega) z3).mono ?_
      rintro e w4 ⟨rfl, hN4, hb4⟩
      rw [LH.out.1] at hN4
      have N4 := hid hN4
      have J4 := Jn.nextB hb4 J3 hbR hbW
      have z4 : b ≤ w4.heap.size := Nat.le_trans z3 hb4.size
      have LL4 : Hid ((FS ++ hdL o2 k ++ ([108, 101, 110, 103, 116, 104] ++ [58, 32] ++ Lib.decDigits bd.size ++ [10])).length ≤ 200000) := by
        have e : ([108, 101, 110, 103, 116, 104] ++ [58, 32] ++ Lib.decDigits bd.size ++ [10] : List UInt8).length = LN.size := by rw [← LH.out.1]; simp
        have := LH.out.2
        show _ ≤ _
        rw [List.length_append, List.length_append, e]
        omega
      clear hN4 hb4 J3 N3
      go_wp2_with fail
      refine (bldWrite b b _ ⟨#[10]⟩ w4 N4.out (by have := LL4.out; show _ + 1 ≤ _; omega) z4).mono ?_
      rintro e w5 ⟨rfl, hN5, hb5⟩
      have N5 := hid hN5
      have J5 := Jn.nextB hb5 J4 hbR hbW
      have z5 : b ≤ w5.heap.size := Nat.le_trans z4 hb5.size
      have x5 : w5.cell? ⟨w.heap.size, 4, none⟩ = some (.string bd) := J5.out.1.cell 4
      clear hN5 hb5 J4 N4
      go_wp2_with fail
      refine (bldWrite b b _ bd w5 N5.out (by have := LL4.out; rw [List.length_append]; show _ + 1 + _ ≤ _; omega) z5).mono ?_
      rintro e w6 ⟨rfl, hN6, hb6⟩
      have N6 := hid hN6
      have J6 := Jn.nextB hb6 J5 hbR hbW
      have z6 : b ≤ w6.heap.size := Nat.le_trans z5 hb6.size
      clear hN6 hb6 J5 N5 x5
      have KS := hid (bldStr b b _ w6 N6.out z6)
      have RE : Hid (ofL (FS ++ hdL o2 k ++ ([108, 101, 110, 103, 116, 104] ++ [58, 32] ++ Lib.decDigits bd.size ++ [10]) ++ (⟨#[10]⟩ : ByteArray).data.toList ++ bd.data.toList) = RS) := by
        show _ = _
        rw [HRS.out, E.out]
      rw [RE.out] at KS
      clear RE N6
      go_wp2_with fail
      refine KS.out.mono ?_
      rintro e w7 ⟨rfl, hb7⟩
      have J7 := Jn.nextB hb7 J6 hbR hbW
      go_wp2
      go_ret
      exact ⟨rfl, J7.out.2⟩
end Go.Proofs.YtgoplcjjoiiagaaGreatDoor
