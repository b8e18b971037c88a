import Derived.Test.YtmhkelfmciepaaaGrS8
namespace Go.Proofs.Ytmhkelfmciepaaa
open Go.RowKit
set_option linter.unusedVariables false
/-! What holds of the members behind some operations; what comes of them, owned; operations that are read. -/
structure GOk (i : Nat) (m : Mb) : Prop where
  tm0 : 0 ≤ m.tm
  tm1 : m.tm ≤ i
  lg : m.lg.length ≤ 500
def GOks (i : Nat) (s : Gst) : Prop := ∀ j, GOk i (s j)
theorem GOk.up {i : Nat} {m : Mb} (h : GOk i m) : GOk (i + 1) m := ⟨h.tm0, by have := h.tm1; omega, h.lg⟩
theorem GOks.up {i : Nat} {s : Gst} (h : GOks i s) : GOks (i + 1) s := fun j => (h j).up
theorem GOks.put {i : Nat} {s : Gst} {k : Nat} {m : Mb} (h : GOks i s) (hm : GOk i m) : GOks i (putM s k m) := by
  intro j
  unfold putM
  split
  · exact hm
  · exact h j
theorem GOk.count {i N : Nat} {m : Mb} (h : GOk i m) : GOk i (gCount N m) := ⟨h.tm0, h.tm1, h.lg⟩
theorem GOk.late {i : Nat} {c m : Mb} (hc : GOk i c) (h : GOk i m) : GOk i (gLate c m) := by
  unfold gLate
  split
  · exact ⟨hc.tm0, hc.tm1, h.lg⟩
  · exact h
theorem GOk.vote {i k : Nat} {c m : Mb} (hc : GOk i c) (h : GOk i m) : GOk i (gVote c k m) := by
  have := hc.late h
  unfold gVote
  split
  · exact ⟨this.tm0, this.tm1, this.lg⟩
  · exact this
theorem GOks.gath {i k : Nat} : ∀ (pe : List Int) (A : Nat → Bool) (s : Gst) (v : Nat), GOks i s → GOks i (gGath k pe A s v).1
  | [], _, _, _, h => h
  | p :: r, A, s, v, h => by
    unfold gGath
    split
    · exact GOks.gath r A s v h
    · exact GOks.gath r _ _ _ (h.put ((h k).vote (h p.toNat)))
theorem gNext_len {a b : List Ge} (ha : a.length ≤ 500) (hb : b.length ≤ 500) : (gNext a b).length ≤ 500 := by
  have := gPart_le a b
  unfold gNext
  split
  · exact ha
  · rw [List.length_append, List.length_take, List.length_drop]; omega
theorem GOks.elect {i N k : Nat} {s : Gst} {pe : List Int} (h : GOks i s) : GOks (i + 1) (gElect N s k pe).1 := by
  have hs : GOks (i + 1) (gStart s k) := by
    unfold gStart
    refine h.up.put ⟨?_, ?_, (h k).lg⟩
    · have := (h k).tm0; show 0 ≤ (s k).tm + 1; omega
    · have := (h k).tm1; show (s k).tm + 1 ≤ _; omega
  have hg := GOks.gath (k := k) pe (fun j => decide (j = k)) (gStart s k) 1 hs
  unfold gElect
  split
  · dsimp only
    split
    · exact hg.put ⟨(hg k).tm0, (hg k).tm1, (hg k).lg⟩
    · exact hg
  · exact h.up
theorem GOks.prop {i N k : Nat} {s : Gst} {tx : ByteArray} (h : GOks i s) : GOks i (gProp N s k tx).1 := by
  unfold gProp
  split
  · exact h
  · split
    · exact h
    · split
      · exact h
      · refine h.put (GOk.count ⟨(h k).tm0, (h k).tm1, ?_⟩)
        show ((s k).lg ++ [_]).length ≤ 500
        rw [List.length_append]
        simp
        omega
theorem GOks.copy {i N k : Nat} {s : Gst} {t : Int} (h : GOks i s) : GOks i (gCopy N s k t).1 := by
  unfold gCopy
  split
  · exact h
  · split
    · exact h
    · split
      · exact h.put ⟨(h _).tm0, (h _).tm1, (h k).lg⟩
      · dsimp only
        have h1 : GOk i (gCount N { s k with mt := (s k).mt.set t.toNat ((s k).lg.length : Int) }) := GOk.count ⟨(h k).tm0, (h k).tm1, (h k).lg⟩
        refine GOks.put (GOks.put h h1) ⟨(h k).tm0, (h k).tm1, ?_⟩
        exact gNext_len (h t.toNat).lg (h k).lg
theorem GOks.one {i N : Nat} {s : Gst} {o : Gop} (h : GOks i s) : GOks (i + 1) (gOne N s o).1 := by
  unfold gOne
  split
  · show GOks (i + 1) (gDo N s o.mb.toNat o).1
    unfold gDo
    split
    · exact h.elect
    · split
      · exact h.prop.up
      · split
        · exact h.copy.up
        · split
          · exact h.up.put ⟨(h.up _).tm0, (h.up _).tm1, (h.up _).lg⟩
          · exact h.up
  · exact h.up
/-- a run, operation by operation -/
def gR (N : Nat) (o : Nat → Gop) : Nat → Gst × List Gou
  | 0 => (fun _ => mb0 N, [])
  | i + 1 => ((gOne N (gR N o i).1 (o i)).1, (gR N o i).2 ++ [(gOne N (gR N o i).1 (o i)).2])
theorem gR_len (N : Nat) (o : Nat → Gop) : ∀ i, (gR N o i).2.length = i
  | 0 => rfl
  | i + 1 => by rw [gR, List.length_append, gR_len N o i]; rfl
theorem gR_ok (N : Nat) (o : Nat → Gop) : ∀ i, GOks i (gR N o i).1
  | 0 => fun _ => ⟨Int.le_refl _, Int.le_refl _, Nat.zero_le _⟩
  | i + 1 => (gR_ok N o i).one
def gouL (L : List Gou) : List Value := L.flatMap fun e => [.int .i64 e.cd, .int .i64 e.vo, .int .i64 e.cm]
theorem gouL_len (L : List Gou) : (gouL L).length = L.length * 3 := by
  induction L with
  | nil => rfl
  | cons f L ih => simp only [gouL, List.flatMap_cons, List.length_append, List.length_cons] at ih ⊢; rw [ih]; simp; omega
theorem gouL_app (A B : List Gou) : gouL (A ++ B) = gouL A ++ gouL B := by simp [gouL]
def goAt (L : List Gou) (i : Nat) : Gou := L.getD i gou0
theorem gouL_at : ∀ (L : List Gou) (k : Nat), k < L.length → (gouL L)[k * 3]? = some (.int .i64 (goAt L k).cd) ∧ (gouL L)[k * 3 + 1]? = some (.int .i64 (goAt L k).vo) ∧ (gouL L)[k * 3 + 2]? = some (.int .i64 (goAt L k).cm)
  | [], k, h => by simp at h
  | e :: L, 0, h => ⟨rfl, rfl, rfl⟩
  | e :: L, k + 1, h => by
    have q := gouL_at L k (by simpa using h)
    have e1 : gouL (e :: L) = .int .i64 e.cd :: .int .i64 e.vo :: .int .i64 e.cm :: gouL L := rfl
    rw [e1, show (k + 1) * 3 = k * 3 + 1 + 1 + 1 by omega]
    simp only [List.getElem?_cons_succ]
    exact q
def OwnGo (w : World) (base : Nat) (v : Value) (L : List Gou) : Prop := w.ownsRow base 34 3 v L.length (gouL L)
theorem OwnGo.gous {w : World} {base : Nat} {v : Value} {L : List Gou} (h : OwnGo w base v L) : ∃ a c, v = .slice a L.length c ∧ Gous w a L.length c (goAt L) := by
  rcases h.2 with ⟨h0, h1⟩ | ⟨g, cap, cur, he, hb, hr, hnc, hm, hsz, htk⟩
  · exact ⟨none, 0, by rw [h0, h1], by omega, .inl h1⟩
  · have R : RowAt w g 34 cur := hr
    refine ⟨_, cap, he, hnc, .inr ⟨g, 0, rfl, R.lt, fun k hk => ?_⟩⟩
    have q := gouL_at L k hk
    have e1 : ∀ p, p < L.length * 3 → w.cell? ⟨g, p, none⟩ = (gouL L)[p]? := fun p hp => by
      have := congrArg (·[p]?) htk
      simp only [List.getElem?_take] at this
      rw [if_pos hp, Array.getElem?_toList] at this
      rw [R.cell]
      exact this
    rw [Nat.zero_add, e1 _ (by omega), e1 _ (by omega), e1 _ (by omega)]
    exact q
theorem OwnGo.kp {w w' : World} {base : Nat} {v : Value} {L : List Gou} (h : OwnGo w base v L) (hk : Kp w w') : OwnGo w' base v L := by
  refine ⟨h.1, ?_⟩
  rcases h.2 with h0 | ⟨g, cap, cur, he, hb, hr, hnc, hm, hsz, htk⟩
  · exact .inl h0
  · exact .inr ⟨g, cap, cur, he, hb, hk.row g _ cur (by decide) (by decide) hr, hnc, hm, hsz, htk⟩
theorem OwnGo.below {w w' : World} {base : Nat} {v : Value} {L : List Gou} (h : OwnGo w base v L) (hb : Below w.heap.size w w') : OwnGo w' base v L := h.kp ((Kp.refl w).below hb)
theorem OwnGo.row {w : World} {base : Nat} {v : Value} {L : List Gou} (h : OwnGo w base v L) {g : Nat} (hg : v.ownBlock = some g) : ∃ cs, RowAt w g 34 cs := by
  rcases h.2 with ⟨rfl, _⟩ | ⟨g2, cap, cur, rfl, _, hh, _⟩
  · cases hg
  · obtain rfl : g2 = g := Option.some.inj hg
    exact ⟨cur, hh⟩
/-- rows of other kinds stay where what comes of operations grows -/
theorem OwnGo.far {w w' : World} {base : Nat} {v : Value} {L : List Gou} (h : OwnGo w base v L) (hg : w.grownBy w' v.ownBlock) {g : Nat} {t : TypeId} {cs : Array Value} (hr : RowAt w g t cs) (ht : t ≠ 34) : RowAt w' g t cs :=
  (hg.block g hr.lt fun e => by obtain ⟨ds, hd⟩ := h.row e.symm; exact row_apart hr hd ht rfl).trans hr
theorem SpL.ownO {w w' : World} {B b N : Nat} {s : Gst} {la : Nat → Option Addr} {lc mb : Nat → Nat} (h : SpL w B b N s la lc mb) {base : Nat} {v : Value} {L : List Gou} (hO : OwnGo w base v L) (hg : w.grownBy w' v.ownBlock) : SpL w' B b N s la lc mb := by
  refine ⟨h.hB, ?_, fun k hk => (h.log k hk).far fun g cs hr => hO.far hg hr (by decide), fun k hk => ⟨hO.far hg (h.mat k hk).1 (by decide), (h.mat k hk).2⟩, h.ne⟩
  obtain ⟨cs, h1, h2, h3⟩ := h.row
  exact ⟨cs, hO.far hg h1 (by decide), h2, h3⟩
theorem Try.infoGo2 : (Try.prog.info? 34).map (fun i => (i.zero, i.size, i.bytes)) = some (some (.agg #[.int .i64 0, .int .i64 0, .int .i64 0]), 3, 24) := by kernel_rfl
theorem append_go {ops : Array Oper} {rest : List Oper} {o : Oper} {a : Act} {Q : Exit → Act → World → Prop} (base : Nat) (wr : World) (hgd : o.guard = none) (s x : Operand)
    (ho : o.op = .call { callee := .builtin .append, args := #[s, x], argTypes := #[28, 28] })
    (v : Value) (L : List Gou) (g1 g2 g3 : Int) (hs : a.eval s = v) (hown : OwnGo wr base v L) (hsz : base ≤ wr.heap.size)
    (hx : a.eval x = .slice (some ⟨wr.heap.size, 0, none⟩) 1 1) (hlen : L.length ≤ 1048576)
    (h : ∀ v' w', OwnGo w' base v' (L ++ [⟨g1, g2, g3⟩]) → wr.grownBy w' v.ownBlock → wpList Try.prog ops Q rest (a.put o.dst v') w') :
    wpList Try.prog ops Q (o :: rest) a (wr.alloc (.cells #[.int .i64 g1, .int .i64 g2, .int .i64 g3] 34)) := by
  obtain ⟨i0, hi, hz0, hz1, hz2⟩ := info_parts Try.infoGo2
  refine wpList_append_own _ hgd s x 28 ho base 34 i0 _ 3 24 Try.underlying28 hi hz0 hz1 hz2 rfl (by decide) v L.length _ hs (World.ownsRow.alloc hown _) ⟨wr.heap.size, 0, none⟩ 1 1 [.int .i64 g1, .int .i64 g2, .int .i64 g3] hx rfl ?_ ?_ ?_ ?_ ?_ ?_
  · intro j u hj
    have R := RowAt.new wr 34 #[.int .i64 g1, .int .i64 g2, .int .i64 g3]
    match j, hj with
    | 0, hj => simp at hj; subst hj; exact R.cell 0
    | 1, hj => simp at hj; subst hj; exact R.cell 1
    | 2, hj => simp at hj; subst hj; exact R.cell 2
  · intro u hu; simp at hu; rcases hu with rfl | rfl | rfl <;> rfl
  · unfold maxLen; omega
  · omega
  · simp; omega
  · intro v' w' h1 h2 h3
    refine h v' w' ?_ (grown_trans (World.grownBy_alloc wr _ _) h2)
    unfold OwnGo
    rw [gouL_app, List.length_append]
    exact h1
/-- a slice of operations that is read -/
def Gops (w : World) (a : Option Addr) (n cap : Nat) (o : Nat → Gop) (pa : Nat → Option Addr) (pc : Nat → Nat) : Prop :=
  n ≤ cap ∧ (n = 0 ∨ ∃ b off, a = some ⟨b, off, none⟩ ∧ b < w.heap.size ∧ ∀ k, k < n → w.cell? ⟨b, off + k * 5, none⟩ = some (.int .i64 (o k).kd) ∧ w.cell? ⟨b, off + k * 5 + 1, none⟩ = some (.int .i64 (o k).mb) ∧ w.cell? ⟨b, off + k * 5 + 2, none⟩ = some (.int .i64 (o k).dt) ∧ w.cell? ⟨b, off + k * 5 + 3, none⟩ = some (.slice (pa k) (o k).pe.length (pc k)) ∧ w.cell? ⟨b, off + k * 5 + 4, none⟩ = some (.string (o k).tx) ∧ Ints .i64 w (pa k) (o k).pe.length (pc k) (o k).pe)
theorem Gops.below {w w' : World} {a : Option Addr} {n cap : Nat} {o : Nat → Gop} {pa : Nat → Option Addr} {pc : Nat → Nat} (h : Gops w a n cap o pa pc) (hb : Below w.heap.size w w') : Gops w' a n cap o pa pc := by
  refine ⟨h.1, ?_⟩
  rcases h.2 with h0 | ⟨b, off, rfl, h1, h2⟩
  · exact Or.inl h0
  · refine Or.inr ⟨b, off, rfl, Nat.lt_of_lt_of_le h1 hb.size, fun k hk => ?_⟩
    obtain ⟨c0, c1, c2, c3, c4, c5⟩ := h2 k hk
    exact ⟨(hb.cell (p := ⟨b, _, none⟩) h1).trans c0, (hb.cell (p := ⟨b, _, none⟩) h1).trans c1, (hb.cell (p := ⟨b, _, none⟩) h1).trans c2, (hb.cell (p := ⟨b, _, none⟩) h1).trans c3, (hb.cell (p := ⟨b, _, none⟩) h1).trans c4, c5.below hb⟩
end Go.Proofs.Ytmhkelfmciepaaa
