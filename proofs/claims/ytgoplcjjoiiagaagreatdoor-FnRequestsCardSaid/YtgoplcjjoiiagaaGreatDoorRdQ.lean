import Derived.Test.YtgoplcjjoiiagaaGreatDoorRdQry
import Derived.Test.YtgoplcjjoiiagaaGreatDoorSFst
import Derived.RangeFuncBox
namespace Go.Proofs.YtgoplcjjoiiagaaGreatDoor
open Go.RowKit Go.Shelf
attribute [local go_sem] Oper.semAt_some
/-! The program's readQuery: a range over strings.SplitSeq. -/
theorem spl_le (c : UInt8) : ∀ (l cur : List UInt8), ∀ p ∈ splA c cur l, p.length ≤ cur.length + l.length
  | [], cur, p, hp => by simp [splA] at hp; rw [hp]; simp
  | x :: r, cur, p, hp => by
    unfold splA at hp
    split at hp
    · rcases List.mem_cons.1 hp with rfl | hp
      · simp
      · have := spl_le c r [] p hp; simp at *; omega
    · have := spl_le c r (cur ++ [x]) p hp; simp at *; omega
theorem spl_at_le (c : UInt8) (l : List UInt8) (k : Nat) : (pcB (splA c [] l) k).size ≤ l.length := by
  unfold pcB
  rw [ofL_size]
  by_cases h : k < (splA c [] l).length
  · have := spl_le c l [] ((splA c [] l)[k]) (List.getElem_mem h)
    simp [List.getD, h]
    simpa using this
  · simp [List.getD, h]
theorem append_hp1In {F : Fence} {n : Nat} {P : Program} (base : Nat) (wr : World) {ops : Array Oper} {rest : List Oper} {op : Oper} {a : Act} {Q : Exit → Act → World → Prop} (hgd : op.guard = none) (s x : Operand) (t : TypeId)
    (ho : op.op = .call { callee := .builtin .append, args := #[s, x], argTypes := #[t, t] })
    (ht : P.underlying t = some (.slice 54)) (hinfo : (P.info? 54).map (fun i => (i.zero, i.size, i.bytes)) = some (some hz2, 2, 32))
    (v : Value) (L : List Hp) (N y : ByteArray) (hs : a.eval s = v) (hown : OwnHp wr base v L) (hsz : base ≤ wr.heap.size)
    (hx : a.eval x = .slice (some ⟨wr.heap.size, 0, none⟩) 1 1) (hlen : L.length + 1 ≤ 1048576)
    (h : ∀ v' w', OwnHp w' base v' (L ++ [⟨N, y⟩]) → wr.grownBy w' v.ownBlock → wpListIn F n P ops Q rest (a.put op.dst v') w') :
    wpListIn F n P ops Q (op :: rest) a (wr.alloc (.cells #[.string N, .string y] 54)) := by
  obtain ⟨i0, hi, hz0, hz1, hz2⟩ := info_parts hinfo
  have R := RowAt.new wr 54 #[.string N, .string y]
  refine wpListIn_append_own _ hgd s x t ho base 54 i0 _ 2 32 ht hi hz0 hz1 hz2 rfl (by decide) v L.length _ hs (World.ownsRow.alloc hown _) ⟨wr.heap.size, 0, none⟩ 1 1 [.string N, .string y] hx rfl ?_ ?_ ?_ ?_ ?_ ?_
  · intro j u hj
    match j, hj with
    | 0, hj => simp at hj; subst hj; simp [Addr.add]
    | 1, hj => simp at hj; subst hj; simp [Addr.add]
  · intro u hu
    simp at hu
    rcases hu with rfl | rfl <;> rfl
  · unfold maxLen; omega
  · omega
  · simp; omega
  · intro v' w' h1 h2 _
    refine h v' w' ?_ (grown_trans (World.grownBy_alloc wr _ _) h2)
    unfold OwnHp
    rw [List.length_append]
    have e : hpL (L ++ [(⟨N, y⟩ : Hp)]) = hpL L ++ [.string N, .string y] := by rw [hpL_app]; rfl
    rw [e]
    exact h1
theorem infoPr : (Tryz.prog.info? 54).map (fun i => (i.zero, i.size, i.bytes)) = some (some hz2, 2, 32) := by kernel_rfl
set_option maxRecDepth 20000 in
theorem iSplit (s sep : ByteArray) (w : World) :
    Calls Tryz.prog 128 #[.string s, .string sep] w fun e w' => e = .returned (.func (.func 146) #[] #[.pointer (some ⟨w.heap.size + 1, 0, none⟩), .pointer (some ⟨w.heap.size, 0, none⟩), .pointer (some ⟨w.heap.size + 1 + 1, 0, none⟩)]) ∧ w' = ((w.alloc (.cells #[.string s] 9)).alloc (.cells #[.string sep] 9)).alloc (.cells #[.int .i64 0] 3) := by
  have hmf : ∀ (fn : Fn) (first cap : Array Value) (w : World), (Instr.makeFunc fn first cap).run Tryz.prog w = .ok (.func fn first cap) w := fun _ _ _ _ => rfl
  have K : Calls Tryz.prog 139 #[.string s, .string sep, .int .i64 0] w fun e w' => e = .returned (.func (.func 146) #[] #[.pointer (some ⟨w.heap.size + 1, 0, none⟩), .pointer (some ⟨w.heap.size, 0, none⟩), .pointer (some ⟨w.heap.size + 1 + 1, 0, none⟩)]) ∧ w' = ((w.alloc (.cells #[.string s] 9)).alloc (.cells #[.string sep] 9)).alloc (.cells #[.int .i64 0] 3) := by
    go_enter Tryz.func139, Tryz.ntmps139
    go_wp2
    go_ret
    exact ⟨rfl, rfl⟩
  go_enter Tryz.func128, Tryz.ntmps128
  go_wp2_with fail
  refine K.mono ?_
  rintro e w' ⟨rfl, hw⟩
  obtain rfl := hw
  go_wp2
  go_ret
  exact ⟨rfl, rfl⟩
/-- what the loop of readQuery has -/
structure QyI (E : List (List UInt8)) (w : World) (k : Nat) (W : World) (v : Value) (L : List Hp) : Prop where
  a : RowAt W w.heap.size 23 #[.slice none 0 0]
  b : RowAt W (w.heap.size + 1) 4 #[.bool false]
  c : RowAt W (w.heap.size + 2) 23 #[v]
  o : OwnHp W (w.heap.size + 6) v L
  l : L.length = k
  q : qyO E = (qyO (E.drop k)).map fun M => L ++ M
  bl : Below w.heap.size w W
  sz : w.heap.size + 6 ≤ W.heap.size
theorem own_row {W W' : World} {b : Nat} {t : TypeId} {c : Array Value} {row : Option Nat} (h : RowAt W b t c) (hg : W.grownBy W' row) (hr : ∀ r, row = some r → ∃ o : Obj, W.heap[r]? = some o ∧ o.isCells = false) : RowAt W' b t c :=
  (hg.block b h.lt (fun e => by
    obtain ⟨o, ho, hc⟩ := hr b e.symm
    rw [show W.heap[b]? = _ from h] at ho
    cases ho
    cases hc)).trans h
theorem own_hp {W W' : World} {base : Nat} {v : Value} {L : List Hp} {row : Option Nat} (h : OwnHp W base v L) (hg : W.grownBy W' row) (hr : ∀ r, row = some r → ∃ o : Obj, W.heap[r]? = some o ∧ o.isCells = false) : OwnHp W' base v L := by
  refine World.ownsRow.kept h hg ?_
  rcases h.2 with ⟨rfl, _⟩ | ⟨g, cap, cur, rfl, _, hgb, _⟩
  · exact .inl rfl
  · right
    intro e
    obtain ⟨o, ho, hc⟩ := hr g e.symm
    rw [hgb] at ho
    cases ho
    cases hc
theorem QyI.own {E : List (List UInt8)} {w : World} {k : Nat} {W W' : World} {v : Value} {L : List Hp} (h : QyI E w k W v L) {row : Option Nat} (hg : W.grownBy W' row) (hr : ∀ r, row = some r → w.heap.size ≤ r ∧ ∃ o : Obj, W.heap[r]? = some o ∧ o.isCells = false) : QyI E w k W' v L :=
  ⟨own_row h.a hg fun r e => (hr r e).2, own_row h.b hg fun r e => (hr r e).2, own_row h.c hg fun r e => (hr r e).2, own_hp h.o hg fun r e => (hr r e).2, h.l, h.q, h.bl.grown hg h.bl.size (fun j hj => (hr j hj).1), Nat.le_trans h.sz hg.size⟩
theorem QyI.other {E : List (List UInt8)} {w : World} {k : Nat} {W W' : World} {v : Value} {L : List Hp} (h : QyI E w k W v L) {r : Nat} (hg : W.grownBy W' (some r)) (h1 : w.heap.size + 2 < r) (h2 : r < w.heap.size + 6) : QyI E w k W' v L :=
  ⟨(hg.block _ h.a.lt (fun e => by cases e; omega)).trans h.a, (hg.block _ h.b.lt (fun e => by cases e; omega)).trans h.b, (hg.block _ h.c.lt (fun e => by cases e; omega)).trans h.c,
   World.ownsRow.kept h.o hg (.inr fun e => by have := (World.ownsRow.lt h.o r e).1; omega), h.l, h.q, h.bl.grown hg h.bl.size (fun j hj => by cases hj; omega), Nat.le_trans h.sz hg.size⟩
/-- how it may be left -/
structure QyX (E : List (List UInt8)) (w : World) (W : World) : Prop where
  a : RowAt W w.heap.size 23 #[.slice none 0 0]
  b : RowAt W (w.heap.size + 1) 4 #[.bool false]
  q : qyO E = none
  bl : Below w.heap.size w W
theorem QyX.own {E : List (List UInt8)} {w W W' : World} (h : QyX E w W) {row : Option Nat} (hg : W.grownBy W' row) (hr : ∀ r, row = some r → w.heap.size ≤ r ∧ ∃ o : Obj, W.heap[r]? = some o ∧ o.isCells = false) : QyX E w W' :=
  ⟨own_row h.a hg fun r e => (hr r e).2, own_row h.b hg fun r e => (hr r e).2, h.q, h.bl.grown hg h.bl.size (fun j hj => (hr j hj).1)⟩
theorem QyX.other {E : List (List UInt8)} {w W W' : World} (h : QyX E w W) {r : Nat} (hg : W.grownBy W' (some r)) (h1 : w.heap.size + 2 < r) : QyX E w W' :=
  ⟨(hg.block _ h.a.lt (fun e => by cases e; omega)).trans h.a, (hg.block _ h.b.lt (fun e => by cases e; omega)).trans h.b, h.q, h.bl.grown hg h.bl.size (fun j hj => by cases hj; omega)⟩
end Go.Proofs.YtgoplcjjoiiagaaGreatDoor
namespace Go.Proofs.YtgoplcjjoiiagaaGreatDoor
open Go.RowKit Go.Shelf
attribute [local go_sem] Oper.semAt_some
theorem query_ret {E : List (List UInt8)} {w W' : World} {X D : Nat} {v : Value} {L : List Hp} {ok : Bool} {tm : Array Value} (hK : W'.heap[D]? = some (.deferred (some []))) (sa : RowAt (W'.putObj D (.deferred none)) X 23 #[v]) (sb : RowAt (W'.putObj D (.deferred none)) (X + 1) 4 #[.bool ok])
    (so : OwnHp (W'.putObj D (.deferred none)) w.heap.size v L) (h1 : ok = true → qyO E = some L) (h0 : ok = false → qyO E = none) (bl : Below w.heap.size w (W'.putObj D (.deferred none)))
    (h2 : tm.getD 2 undef = .pointer (some ⟨X, 0, none⟩)) (h3 : tm.getD 3 undef = .pointer (some ⟨X + 1, 0, none⟩)) :
    bodyPostM Fence.wide 5 Tryz.prog Tryz.f114 (fun e w' => ∃ v L ok, e = .returned (.tuple #[v, .bool ok]) ∧ OwnHp w' w.heap.size v L ∧ (ok = true → qyO E = some L) ∧ (ok = false → qyO E = none) ∧ Below w.heap.size w w') Exit.ret { tmps := tm, defers := [{ target := .collected D, args := #[] }] } W' := by
  have h2' : tm[2]?.getD undef = .pointer (some ⟨X, 0, none⟩) := by simpa using h2
  have h3' : tm[3]?.getD undef = .pointer (some ⟨X + 1, 0, none⟩) := by simpa using h3
  have c0 : (W'.putObj D (.deferred none)).cell? ⟨X, 0, none⟩ = some v := sa.cell 0
  have c1 : (W'.putObj D (.deferred none)).cell? ⟨X + 1, 0, none⟩ = some (.bool ok) := sb.cell 0
  refine ⟨by simp, .inl ⟨_, _, rfl, run_takeDeferred hK, ?_⟩⟩
  refine ⟨.tuple #[v, .bool ok], ?_, v, L, ok, rfl, so, h1, h0, bl⟩
  simp [results, Tryz.results114, go_sem, h2', h3', c0, c1]
set_option maxRecDepth 100000 in
set_option maxHeartbeats 2000000 in
theorem iQuery (t : ByteArray) (ht : t.size ≤ 400000) (w : World) (hv : RdV w) :
    Calls Tryz.prog 114 #[.string t] w fun e w' => ∃ v L ok, e = .returned (.tuple #[v, .bool ok]) ∧ OwnHp w' w.heap.size v L ∧ (ok = true → qyO (splA 38 [] t.data.toList) = some L) ∧ (ok = false → qyO (splA 38 [] t.data.toList) = none) ∧ Below w.heap.size w w' := by
  refine (callsIn_wide (n := 5)).1 ?_
  obtain ⟨E, hE⟩ : ∃ E, E = splA 38 [] t.data.toList := ⟨_, rfl⟩
  rw [← hE]
  have HE := hid hE
  have HV := hid hv
  have HG := hid hv.gl
  clear hv hE
  obtain ⟨W0, hW0⟩ : ∃ W, W = ((w.alloc (.cells #[.slice none 0 0] 23)).alloc (.cells #[.bool false] 4)).alloc (.cells #[.slice none 0 0] 23) := ⟨_, rfl⟩
  have Z0 : Hid (W0.heap.size = w.heap.size + 3) := by rw [hW0]; show _ = _; simp only [World.size_alloc]
  have rA : RowAt W0 w.heap.size 23 #[.slice none 0 0] := by rw [hW0]; exact ((RowAt.new _ _ _).alloc _).alloc _
  have rB : RowAt W0 (w.heap.size + 1) 4 #[.bool false] := by rw [hW0]; exact (RowAt.next _ _ _ (by rw [World.size_alloc])).alloc _
  have rC : RowAt W0 (w.heap.size + 2) 23 #[.slice none 0 0] := by rw [hW0]; exact RowAt.next _ _ _ (by simp only [World.size_alloc])
  have b0 : Below w.heap.size w W0 := by rw [hW0]; exact (((Below.refl _ w).alloc (Nat.le_refl _) _).alloc (by simp) _).alloc (by simp; omega) _
  refine callsIn_of_wp_marks Tryz.func114 rfl trivial ?_ rfl
  simp only [Tryz.ntmps114, List.size_toArray, List.length_cons, List.length_nil, Nat.reduceAdd, Nat.reduceSub, Array.replicate_succ, Array.replicate_zero, List.push_toArray, List.append_toArray, List.nil_append, List.cons_append]
  gi_wp2_with fail
  rw [← hW0]
  clear hW0
  refine ⟨trivial, (callsIn_wide.2 (iSplit t ⟨#[38]⟩ W0)).mono ?_⟩
  rintro e wL ⟨rfl, hwL⟩
  rw [Z0.out]
  obtain ⟨X, hX⟩ : ∃ X, X = w.heap.size := ⟨_, rfl⟩
  have ZL : Hid (wL.heap.size = X + 6) := by rw [hwL, hX]; show _ = _; simp only [World.size_alloc]; have := Z0.out; omega
  have bL : Below W0.heap.size W0 wL := by rw [hwL]; exact (((Below.refl _ W0).alloc (Nat.le_refl _) _).alloc (by simp) _).alloc (by simp; omega) _
  have BW : Hid (Below w.heap.size w wL) := b0.trans (bL.mono b0.size)
  have SP : Hid (SpAt wL (X + 3) (X + 3 + 1) (X + 3 + 1 + 1) t 38) := by
    rw [hwL, hX]
    exact ⟨((RowAt.next _ _ _ Z0.out.symm).alloc _).alloc _, (RowAt.next _ _ _ (by rw [World.size_alloc, Z0.out])).alloc _, RowAt.next _ _ _ (by simp only [World.size_alloc]; rw [Z0.out])⟩
  have VL := hid (HV.out.below BW.out)
  have I0 : Hid (QyI E w 0 wL (.slice none 0 0) []) :=
    ⟨rA.below bL rA.lt, rB.below bL rB.lt, rC.below bL rC.lt, OwnHp.nil _ _, rfl, by
      cases h : qyO E with
      | none => rw [List.drop_zero, h]; rfl
      | some L => rw [List.drop_zero, h]; rfl, BW.out, by rw [ZL.out, hX]; exact Nat.le_refl _⟩
  have hsq : SeqR Fence.wide (5 - 1) Tryz.prog 146 #[.pointer (some ⟨X + 3 + 1, 0, none⟩), .pointer (some ⟨X + 3, 0, none⟩), .pointer (some ⟨X + 3 + 1 + 1, 0, none⟩)] E.length (fun k => #[.string (pcB E k)]) (fun A B => A.grownBy B (some (X + 3))) (KpS X (X + 3) (X + 3 + 1) (X + 3 + 1 + 1)) wL := by
    have := iSeq 38 t (by omega) (5 - 1) (X + 3) (X + 3 + 1) (X + 3 + 1 + 1) X wL SP.out VL.out (by rw [hX]; exact HG.out) (by omega) (by omega) (by omega)
    rw [← HE.out] at this
    exact this
  rw [← hX]
  have HX := hid hX
  clear hwL bL rA rB rC b0 hX Z0
  gi_wp2
  refine wpIn_rangeR rfl (by decide) (gf := 146) (lb := #[.pointer (some ⟨X + 3 + 1, 0, none⟩), .pointer (some ⟨X + 3, 0, none⟩), .pointer (some ⟨X + 3 + 1 + 1, 0, none⟩)]) rfl trivial (enters_of Tryz.func146 (by kernel_rfl) rfl)
    hsq (Below.refl _ _) (fun h k => h.trans k) ?kb ?rk (fun _ => rfl) (fun k W => ∃ v L, QyI E w k W v L) (fun c _ W => c = .ret ∧ QyX E w W) ?oI ?oX ?iR ?xR ⟨_, _, I0.out⟩
    (fun k a' _ => a' = { tmps := #[.string t, undef, .pointer (some ⟨X, 0, none⟩), .pointer (some ⟨X + 1, 0, none⟩), .pointer (some ⟨X + 1 + 1, 0, none⟩), .string (pcB E k), undef, undef, .string t, .func (.func 146) #[] #[.pointer (some ⟨X + 3 + 1, 0, none⟩), .pointer (some ⟨X + 3, 0, none⟩), .pointer (some ⟨X + 3 + 1 + 1, 0, none⟩)], .string (pcB E k), undef, undef, undef, undef, undef, undef, undef, undef, undef, undef, undef, undef], defers := [] })
    (fun _ _ _ _ _ _ hs _ _ => hs) ?assign ?body ?done ?stop
  case kb =>
    intro W l o o' hl h ho _
    rw [ZL.out] at hl
    have hlt := (Array.getElem?_eq_some_iff.1 h).1
    refine ⟨(grownBy_putObj' W l o').size, fun k hk => (grownBy_putObj' W l o').block k (by omega) (fun e => by cases e; omega)⟩
  case rk =>
    intro A B h
    exact KeepsFrom.of_grownBy h (fun j hj => by cases hj; rw [ZL.out]; omega)
  case oI =>
    rintro k A B row ⟨v, L, h⟩ hg hr
    exact ⟨v, L, h.own hg fun r e => ⟨by have := (hr r e).1; rw [ZL.out] at this; have := HX.out; omega, (hr r e).2⟩⟩
  case oX =>
    rintro c k A B row ⟨hc, h⟩ hg hr
    exact ⟨hc, h.own hg fun r e => ⟨by have := (hr r e).1; rw [ZL.out] at this; have := HX.out; omega, (hr r e).2⟩⟩
  case iR =>
    rintro k A B ⟨v, L, h⟩ hg
    exact ⟨v, L, h.other hg (by have := HX.out; omega) (by have := HX.out; omega)⟩
  case xR =>
    rintro c k A B ⟨hc, h⟩ hg
    exact ⟨hc, h.other hg (by have := HX.out; omega)⟩
  case assign =>
    rintro l k W K0 hk hI hK
    have hK' := hK _ W (KeepsFrom.refl _ _) ⟨Nat.le_refl _, fun _ _ => rfl⟩ hI rfl
    clear hK
    gi_wp2
    exact hK'
  case body =>
    rintro l k a' W hl hr hk ⟨v, L, hI⟩ rfl
    obtain ⟨a1, cp1, hv1, _⟩ := hI.o.hps
    have HI := hid hI
    have hpz : (pcB E k).size ≤ 1048576 := by
      have := spl_at_le 38 t.data.toList k
      rw [← HE.out, baLen] at this
      omega
    have VW := hid (HV.out.below hI.bl)
    have KP := hid (iQPair (pcB E k) hpz W VW.out)
    have hdr : E.drop k = (pcB E k).data.toList :: E.drop (k + 1) := by
      rw [List.drop_eq_getElem_cons hk]
      congr 1
      unfold pcB
      rw [ofL_l]
      simp [List.getD, hk]
    have HQ : Hid (qyO E = (qyO ((pcB E k).data.toList :: E.drop (k + 1))).map fun M => L ++ M) := by show _ = _; rw [hI.q, hdr]
    have hlen : L.length + 1 ≤ 1048576 := by
      have h1 := hI.l
      have h2 := (splA_len 38 t.data.toList []).2
      rw [← HE.out, baLen] at h2
      omega
    generalize pcB E k = p at KP HQ
    clear hI hpz hdr
    gi_wp2_with fail
    refine ⟨trivial, (CallsIn.inRound l (callsIn_wide.2 KP.out)).mono ?_⟩
    rintro e w2 ⟨⟨N, V, ok, rfl, hq⟩, hb2⟩
    obtain ⟨W4, hW4⟩ : ∃ W4, W4 = w2.alloc (.cells #[.string N, .string V] 54) := ⟨_, rfl⟩
    have hb4 : Below W.heap.size W W4 := by rw [hW4]; exact hb2.alloc hb2.size _
    have I4 := hid (HI.out.own (row := none) (below_grown hb4 _) (fun r e => by cases e))
    have P4 : Hid (RowAt W4 w2.heap.size 54 #[.string N, .string V]) := by rw [hW4]; exact RowAt.new _ _ _
    have KB : Hid (KeepsFrom wL.heap.size W W4) := KeepsFrom.of_grownBy (below_grown hb4 none) (fun j hj => by cases hj)
    have KK : Hid (KpS X (X + 3) (X + 3 + 1) (X + 3 + 1 + 1) W W4) := ⟨hb4.size, fun j hj => hb4.block j (by have := HI.out.sz; have := HX.out; omega)⟩
    have ra : RowAt W4 X 23 #[.slice none 0 0] := by rw [HX.out]; exact I4.out.a
    have rb : RowAt W4 (X + 1) 4 #[.bool false] := by rw [HX.out]; exact I4.out.b
    have rc : RowAt W4 (X + 1 + 1) 23 #[v] := by rw [HX.out]; exact I4.out.c
    have HW4 := hid hW4
    obtain ⟨y, hy⟩ : ∃ y, y = w2.heap.size := ⟨_, rfl⟩
    have HY := hid hy
    clear hW4 hb4 hb2 HI KP VW
    cases ok with
    | false =>
      have QN : Hid (qyO E = none) := by show _ = _; rw [HQ.out, hq.2 rfl]; rfl
      have a0 := ra.cell 0
      have a1 := ra.free 0
      have b0 := (rb.other ⟨X, 0, none⟩ (.slice none 0 0) (by show X + 1 ≠ X; omega)).cell 0
      have b1 := (rb.other ⟨X, 0, none⟩ (.slice none 0 0) (by show X + 1 ≠ X; omega)).free 0
      have XX : Hid (QyX E w ((W4.setCell ⟨X, 0, none⟩ (.slice none 0 0)).setCell ⟨X + 1, 0, none⟩ (.bool false))) :=
        ⟨by rw [← HX.out]; exact (ra.set 0 (.slice none 0 0)).other _ _ (by show X ≠ X + 1; omega), by rw [← HX.out]; exact (rb.other ⟨X, 0, none⟩ (.slice none 0 0) (by show X + 1 ≠ X; omega)).set 0 _, QN.out,
          (I4.out.bl.setCell (by show w.heap.size ≤ X; have := HX.out; omega) _).setCell (by show w.heap.size ≤ X + 1; have := HX.out; omega) _⟩
      have KX : Hid (KeepsFrom wL.heap.size W ((W4.setCell ⟨X, 0, none⟩ (.slice none 0 0)).setCell ⟨X + 1, 0, none⟩ (.bool false))) :=
        (KB.out.trans (KeepsFrom.of_grownBy grown_set (fun j hj => by cases hj; rw [ZL.out]; omega))).trans (KeepsFrom.of_grownBy grown_set (fun j hj => by cases hj; rw [ZL.out]; omega))
      rw [HW4.out] at a0 a1 b0 b1 XX KX
      clear hq HQ HW4
      gi_wp2
      exact ⟨KX.out, rfl, XX.out⟩
    | true =>
      obtain ⟨n, v0, n', v', q1, q2, q3, rfl, rfl⟩ := hq.1 rfl
      have QS : Hid (qyO E = (qyO (E.drop (k + 1))).map fun M => (L ++ [(⟨ofL n', ofL v'⟩ : Hp)]) ++ M) := by
        show _ = _
        rw [HQ.out, qyO_some q1 q2 q3]
        cases qyO (E.drop (k + 1)) with
        | none => rfl
        | some M => simp
      generalize ofL n' = N at P4 HW4 QS
      generalize ofL v' = V at P4 HW4 QS
      have c0 := rc.cell 0
      have p0 := P4.out.cell 0
      have p1 := P4.out.cell 1
      rw [HW4.out, ← HY.out] at p0 p1
      rw [HW4.out] at c0
      have O4 := hid I4.out.o
      rw [HW4.out] at O4
      have z4 : Hid (w.heap.size + 6 ≤ (w2.alloc (.cells #[.string N, .string V] 54)).heap.size) := by have := I4.out.sz; rw [HW4.out] at this; exact this
      clear hq HQ q1 q2 q3
      rw [hv1] at c0
      have hvo : ∀ j, j < X + 6 → some j ≠ v.ownBlock := fun j hj e => by have := (World.ownsRow.lt I4.out.o j e.symm).1; have := HX.out; omega
      have HVO := hid hvo
      have HRA := hid ra
      have HRB := hid rb
      have HRC := hid rc
      clear hvo ra rb rc
      gi_wp2_with (gi_at_builtin; revert HX)
      intro HX
      refine append_hp1In (w.heap.size + 6) (w2.alloc (.cells #[.string N, .string V] 54)) rfl (.tmp 18) (.tmp 20) 23 rfl Tryz.underlying23 infoPr (.slice a1 L.length cp1) L N V rfl (by rw [← hv1]; exact O4.out) z4.out (by show Value.slice (some ⟨w2.heap.size + 1, 0, none⟩) 1 1 = _; rw [World.size_alloc]) hlen ?_
      intro v' w5 hO5 hg5
      obtain ⟨a2, cp2, hv2, _⟩ := hO5.hps
      subst hv2
      rw [← HW4.out, ← hv1] at hg5
      have r5a := (hg5.block _ HRA.out.lt (HVO.out X (by omega))).trans HRA.out
      have r5b := (hg5.block _ HRB.out.lt (HVO.out (X + 1) (by omega))).trans HRB.out
      have r5c : RowAt w5 (X + 1 + 1) 23 #[v] := (hg5.block _ HRC.out.lt (HVO.out (X + 1 + 1) (by omega))).trans HRC.out
      have bl5 : Below w.heap.size w w5 := I4.out.bl.grown hg5 I4.out.bl.size (fun j hj => by have := (World.ownsRow.lt I4.out.o j hj).1; omega)
      have d0 := r5c.cell 0
      rw [hv1] at d0
      have d1 := r5c.free 0
      have KX : Hid (KeepsFrom wL.heap.size W (w5.setCell ⟨X + 1 + 1, 0, none⟩ (.slice a2 (L ++ [(⟨N, V⟩ : Hp)]).length cp2))) := by
        refine (KB.out.trans ⟨hg5.size, fun j o hB hj ho => ?_⟩).trans (KeepsFrom.of_grownBy grown_set (fun j hj => by cases hj; rw [ZL.out]; omega))
        refine (hg5.block j (Array.getElem?_eq_some_iff.1 hj).1 (fun e => ?_)).trans hj
        rcases I4.out.o.2 with ⟨h1, _⟩ | ⟨g, cap, cur, h1, _, hgb, _⟩
        · rw [h1] at e; cases e
        · rw [h1] at e; cases e; rw [hgb] at hj; cases hj; cases ho
      have KP : Hid (KpS X (X + 3) (X + 3 + 1) (X + 3 + 1 + 1) W (w5.setCell ⟨X + 1 + 1, 0, none⟩ (.slice a2 (L ++ [(⟨N, V⟩ : Hp)]).length cp2))) := by
        refine KK.out.trans ⟨Nat.le_trans hg5.size grown_set.size, fun j hj => ?_⟩
        have hz := I4.out.sz
        have hx := HX.out
        exact (Below.heap_setCell w5 _ _ j (by show j ≠ X + 1 + 1; omega)).trans (hg5.block j (by omega) (HVO.out j (by omega)))
      have I5 : Hid (QyI E w (k + 1) (w5.setCell ⟨X + 1 + 1, 0, none⟩ (.slice a2 (L ++ [(⟨N, V⟩ : Hp)]).length cp2)) (.slice a2 (L ++ [(⟨N, V⟩ : Hp)]).length cp2) (L ++ [(⟨N, V⟩ : Hp)])) := by
        have hx := HX.out
        refine ⟨?_, ?_, ?_, ?_, by rw [List.length_append, I4.out.l]; rfl, QS.out, bl5.setCell (by show w.heap.size ≤ X + 1 + 1; omega) _, Nat.le_trans I4.out.sz (Nat.le_trans hg5.size grown_set.size)⟩
        · rw [← hx]; exact RowAt.other r5a _ _ (by show X ≠ X + 1 + 1; omega)
        · rw [← hx]; exact RowAt.other r5b _ _ (by show X + 1 ≠ X + 1 + 1; omega)
        · rw [← hx]; exact r5c.set 0 _
        · exact OwnHp.setCell hO5 _ _ (by show X + 1 + 1 < w.heap.size + 6; omega)
      generalize (L ++ [(⟨N, V⟩ : Hp)]).length = LL at KX KP I5 ⊢
      clear hg5 hO5 r5a r5b r5c bl5 c0 p0 p1
      gi_wp2
      exact ⟨KX.out, KP.out, _, _, I5.out⟩
  case done =>
    rintro D W hD ⟨v, L, hI⟩ hK
    obtain ⟨a1, cp1, rfl, _⟩ := hI.o.hps
    have hx := HX.out
    have QF : Hid (qyO E = some L) := by
      show _ = _
      rw [hI.q, List.drop_length]
      show some (L ++ []) = _
      rw [List.append_nil]
    have ra : RowAt W X 23 #[.slice none 0 0] := by rw [hx]; exact hI.a
    have rb : RowAt W (X + 1) 4 #[.bool false] := by rw [hx]; exact hI.b
    have rc : RowAt W (X + 1 + 1) 23 #[.slice a1 L.length cp1] := by rw [hx]; exact hI.c
    have c0 := rc.cell 0
    have a0 := ra.cell 0
    have f0 := ra.free 0
    have rb2 := rb.other ⟨X, 0, none⟩ (.slice a1 L.length cp1) (by show X + 1 ≠ X; omega)
    have b0 := rb2.cell 0
    have b1 := rb2.free 0
    obtain ⟨W', hW'⟩ : ∃ W', W' = (W.setCell ⟨X, 0, none⟩ (.slice a1 L.length cp1)).setCell ⟨X + 1, 0, none⟩ (.bool true) := ⟨_, rfl⟩
    have hz := ZL.out
    have hK' : W'.heap[D]? = some (.deferred (some [])) := by
      rw [hW', Below.heap_setCell _ _ _ D (by show D ≠ X + 1; omega), Below.heap_setCell _ _ _ D (by show D ≠ X; omega)]
      exact hK
    have sa : RowAt (W'.putObj D (.deferred none)) X 23 #[.slice a1 L.length cp1] := by
      refine (World.putObj_heap_other (by omega)).trans ?_
      rw [hW']
      exact (ra.set 0 _).other _ _ (by show X ≠ X + 1; omega)
    have sb : RowAt (W'.putObj D (.deferred none)) (X + 1) 4 #[.bool true] := by
      refine (World.putObj_heap_other (by omega)).trans ?_
      rw [hW']
      exact rb2.set 0 _
    have so : OwnHp (W'.putObj D (.deferred none)) w.heap.size (.slice a1 L.length cp1) L := by
      have o1 : OwnHp W' (w.heap.size + 6) (.slice a1 L.length cp1) L := by
        rw [hW']
        exact OwnHp.setCell (OwnHp.setCell hI.o _ _ (by show X < w.heap.size + 6; omega)) _ _ (by show X + 1 < w.heap.size + 6; omega)
      exact OwnHp.mono (ownsRow_putObj o1 (.deferred none) hK' rfl) (by omega)
    have bl : Below w.heap.size w (W'.putObj D (.deferred none)) := by
      have b5 : Below w.heap.size w W' := by rw [hW']; exact (hI.bl.setCell (by show w.heap.size ≤ X; omega) _).setCell (by show w.heap.size ≤ X + 1; omega) _
      exact b5.grown (grownBy_putObj' W' D _) b5.size (fun j hj => by cases hj; omega)
    have HK' := hid hK'
    have SA := hid sa
    have SB := hid sb
    have SO := hid so
    have BL := hid bl
    have HW' := hid hW'
    clear ra rb rc rb2 hK hI hx hz hK' sa sb so bl hW' hD I0 hsq
    gi_wp2
    rw [← HW'.out]
    exact query_ret HK'.out SA.out SB.out SO.out (fun _ => QF.out) (fun h => Bool.noConfusion h) BL.out rfl rfl
  case stop =>
    rintro D c k W hD _ ⟨rfl, hx⟩ hK
    have hX := HX.out
    have hz := ZL.out
    have sa : Hid (RowAt (W.putObj D (.deferred none)) X 23 #[.slice none 0 0]) := (World.putObj_heap_other (by omega)).trans (by rw [hX]; exact hx.a)
    have sb : Hid (RowAt (W.putObj D (.deferred none)) (X + 1) 4 #[.bool false]) := (World.putObj_heap_other (by omega)).trans (by rw [hX]; exact hx.b)
    have bl : Hid (Below w.heap.size w (W.putObj D (.deferred none))) := hx.bl.grown (grownBy_putObj' W D _) hx.bl.size (fun j hj => by cases hj; omega)
    have QN := hid hx.q
    have HK := hid hK
    clear hx hK hX hz hD I0 hsq
    gi_wp2
    exact query_ret HK.out sa.out sb.out (OwnHp.nil _ _) (fun h => Bool.noConfusion h) (fun _ => QN.out) bl.out rfl rfl
end Go.Proofs.YtgoplcjjoiiagaaGreatDoor
