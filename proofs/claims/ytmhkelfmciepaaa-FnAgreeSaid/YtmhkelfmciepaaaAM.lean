import Derived.Test.YtmhkelfmciepaaaAK
import Derived.Test.YtmhkelfmciepaaaGrS11
import Derived.Test.YtmhkelfmciepaaaGrI19
import Derived.Test.YtmhkelfmciepaaaGrSafe
import Derived.Maps.AppendAt
namespace Go.Proofs.Ytmhkelfmciepaaa
open Go.RowKit
set_option linter.unusedVariables false
/-! What FnAgree keeps from operation to operation. -/
/-- rows that are not of int64 stay -/
def Ap (w w' : World) : Prop := ∀ g t cs, t ≠ 2 → RowAt w g t cs → RowAt w' g t cs
theorem Ap.refl (w : World) : Ap w w := fun _ _ _ _ h => h
theorem Ap.trans {w w' w2 : World} (h : Ap w w') (k : Ap w' w2) : Ap w w2 := fun g t cs ht hr => k g t cs ht (h g t cs ht hr)
theorem Ap.below {w w' : World} (hb : Below w.heap.size w w') : Ap w w' := fun g t cs _ hr => hr.below hb hr.lt
theorem OwnNums.neT {w : World} {B : Nat} {v : Value} {xs : List Int} {X : Nat} {t : TypeId} {cs : Array Value} (h : OwnNums w B 2 .i64 v xs) (hr : RowAt w X t cs) (ht : t ≠ 2) : some X ≠ v.ownBlock := fun e => by
  rcases h.2 with ⟨h0, _⟩ | ⟨g, cap, cur, h0, _, hg, _⟩
  · rw [h0] at e; cases e
  · rw [h0] at e
    have eb : X = g := Option.some.inj e
    subst eb
    exact rowNeG hr (show RowAt w X 2 cur from hg) ht rfl
theorem Ap.own {w w' : World} {B : Nat} {v : Value} {xs : List Int} (h : OwnNums w B 2 .i64 v xs) (hg : w.grownBy w' v.ownBlock) : Ap w w' := fun g t cs ht hr => (hg.block g hr.lt (OwnNums.neT h hr ht)).trans hr
theorem OwnNums.belowQ {w w' : World} {B : Nat} {e : TypeId} {k : IntKind} {v : Value} {xs : List Int} (h : OwnNums w B e k v xs) (hb : Below w.heap.size w w') : OwnNums w' B e k v xs :=
  World.ownsRow.kept h (below_grown hb none) (by
    cases hv : v.ownBlock with
    | none => exact .inl rfl
    | some g => exact .inr (by simp))
theorem LogR.ap {w w' : World} {a : Option Addr} {c : Nat} {L : List Ge} (h : LogR w a c L) (k : Ap w w') : LogR w' a c L := h.far fun g cs hr => k g _ cs (by decide) hr
theorem add_zero_off (g i : Nat) : (⟨g, 0, none⟩ : Addr).add i = ⟨g, i, none⟩ := by unfold Addr.add; split <;> simp_all
/-- members that are read -/
def MrAt (w : World) (b N : Nat) (s : Gst) (la : Nat → Option Addr) (lc : Nat → Nat) : Prop :=
  ∃ mb cs, RowAt w b 36 cs ∧ ∀ k, k < N → (∀ r, r < 6 → cs[k * 6 + r]? = some (mbF la lc mb N s (k * 6 + r))) ∧ LogR w (la k) (lc k) (s k).lg
theorem MrAt.ap {w w' : World} {b N : Nat} {s : Gst} {la : Nat → Option Addr} {lc : Nat → Nat} (h : MrAt w b N s la lc) (k : Ap w w') : MrAt w' b N s la lc := by
  obtain ⟨mb, cs, h1, h2⟩ := h
  exact ⟨mb, cs, k b _ cs (by decide) h1, fun j hj => ⟨(h2 j hj).1, (h2 j hj).2.ap k⟩⟩
theorem SpL.mr {w : World} {B b N : Nat} {s : Gst} {la : Nat → Option Addr} {lc mb : Nat → Nat} (h : SpL w B b N s la lc mb) : MrAt w b N s la lc := by
  obtain ⟨cs, hr, _⟩ := id h.row
  refine ⟨mb, cs, hr, fun k hk => ⟨fun r hr' => ?_, h.log k hk⟩⟩
  have := h.row.cell (show k * 6 + r < N * 6 by omega)
  rw [hr.cell] at this
  exact this
theorem MmL.mr {w : World} {B g c N : Nat} {s : Gst} {la : Nat → Option Addr} {lc mb : Nat → Nat} (h : MmL w B g c N s la lc mb) : MrAt w g N s la lc := by
  obtain ⟨f, hf, he⟩ := h.row
  have hcap := h.cap
  obtain ⟨cs, hr, _⟩ := id hf
  refine ⟨mb, cs, hr, fun k hk => ⟨fun r hr' => ?_, ?_⟩⟩
  · have := hf.cell (show k * 6 + r < c * 6 by omega)
    rw [hr.cell, he _ (by omega)] at this
    exact this
  · obtain ⟨a, c2, e, hl⟩ := OwnGe.logR (h.log k hk)
    cases e
    exact hl
theorem MrAt.cells {w : World} {b N : Nat} {s : Gst} {la : Nat → Option Addr} {lc : Nat → Nat} (h : MrAt w b N s la lc) {k : Nat} (hk : k < N) : ∃ z : Nat,
    w.cell? ⟨b, k * 6, none⟩ = some (.int .i64 (s k).tm) ∧ w.cell? ⟨b, k * 6 + 1, none⟩ = some (.int .i64 (s k).vt) ∧ w.cell? ⟨b, k * 6 + 2, none⟩ = some (.bool (s k).ld) ∧ w.cell? ⟨b, k * 6 + 3, none⟩ = some (.int .i64 ((s k).cm : Int)) ∧ w.cell? ⟨b, k * 6 + 4, none⟩ = some (.slice (la k) (s k).lg.length (lc k)) ∧ w.cell? ⟨b, k * 6 + 5, none⟩ = some (.slice (some ⟨z, 0, none⟩) N N) ∧ LogR w (la k) (lc k) (s k).lg := by
  obtain ⟨mb, cs, h1, h2⟩ := h
  have q := (h2 k hk).1
  refine ⟨_, (h1.cell _).trans ((q 0 (by omega)).trans (by rw [Nat.add_zero, mbF0])), (h1.cell _).trans ((q 1 (by omega)).trans (by rw [mbF1])), (h1.cell _).trans ((q 2 (by omega)).trans (by rw [mbF2])), (h1.cell _).trans ((q 3 (by omega)).trans (by rw [mbF3])), (h1.cell _).trans ((q 4 (by omega)).trans (by rw [mbF4])), (h1.cell _).trans ((q 5 (by omega)).trans (by rw [mbF5])), (h2 k hk).2⟩
/-- one number is appended, and where the row lies then -/
theorem append_num_at {P : Program} (base : Nat) (wr : World) {ops : Array Oper} {rest : List Oper} {o : Oper} {a : Act} {Q : Exit → Act → World → Prop} (hgd : o.guard = none) (s x : Operand) (t : TypeId)
    (ho : o.op = .call { callee := .builtin .append, args := #[s, x], argTypes := #[t, t] })
    (e : TypeId) (k : IntKind) (bt : Nat) (ht : P.underlying t = some (.slice e)) (hinfo : (P.info? e).map (fun i => (i.zero, i.size, i.bytes)) = some (some (.int k 0), 1, bt)) (hbt : bt ≤ 8)
    (v : Value) (xs : List Int) (b : Int) (hs : a.eval s = v) (hown : OwnNums wr base e k v xs) (hsz : base ≤ wr.heap.size)
    (hx : a.eval x = .slice (some ⟨wr.heap.size, 0, none⟩) 1 1) (hlen : xs.length ≤ 17592186044414)
    (h : ∀ v' w', OwnNums w' base e k v' (xs ++ [b]) → wr.grownBy w' v.ownBlock → (v'.ownBlock = v.ownBlock ∨ ∃ g, v'.ownBlock = some g ∧ wr.heap.size ≤ g) → wpList P ops Q rest (a.put o.dst v') w') :
    wpList P ops Q (o :: rest) a (wr.alloc (.cells #[.int k b] e)) := by
  obtain ⟨i0, hi, hz0, hz1, hz2⟩ := info_parts hinfo
  refine wpList_append_own_at (w := wr.alloc (.cells #[.int k b] e)) hgd s x t ho base e i0 (.int k 0) 1 bt ht hi hz0 hz1 hz2 rfl (by decide) v _ _ hs (World.ownsRow.alloc hown _) ⟨wr.heap.size, 0, none⟩ 1 1 [.int k b] hx rfl (cell_one_new _ _ _) ?_ ?_ ?_ ?_ ?_
  · intro u hu; simp at hu; subst hu; rfl
  · unfold maxLen; omega
  · exact Nat.le_trans (Nat.mul_le_mul_left _ hbt) (by omega)
  · simp; omega
  · intro v' w' h1 h2 h3 h4
    refine h v' w' (by simpa [OwnNums] using h1) (grown_trans (World.grownBy_alloc wr _ _) h2) ?_
    rcases h4 with h4 | h4
    · exact .inl h4
    · exact .inr ⟨_, h4, by simp⟩
theorem OwnNums.shapeQ {w : World} {B : Nat} {e : TypeId} {k : IntKind} {v : Value} {xs : List Int} (h : OwnNums w B e k v xs) : ∃ a c, v = .slice a xs.length c := by
  rcases h.2 with ⟨h0, h1⟩ | ⟨g, cap, cur, rfl, _⟩
  · rw [h0, h1]; exact ⟨_, _, rfl⟩
  · exact ⟨_, _, rfl⟩
/-- what stands behind i operations: the longest that was told, who led when -/
structure AgSt (N : Nat) (o : Nat → Gop) (W4 : World) (i : Nat) (a5 : Option Addr) (c5 : Nat) (Bs : List Ge) (y6 y7 : Value) (ls ks : List Int) (wx : World) : Prop where
  bel : Below W4.heap.size W4 wx
  best : LogR wx a5 c5 Bs
  l6 : OwnNums wx W4.heap.size 2 .i64 y6 ls
  l7 : OwnNums wx W4.heap.size 2 .i64 y7 ks
  apart : ∀ g, y6.ownBlock = some g → y7.ownBlock ≠ some g
  told : Told N o Bs i
  lens : ks.length = ls.length
  lead : ∀ j, j < ls.length → ∃ i' p, i' ≤ i ∧ p < N ∧ ((gR N o i').1 p).ld = true ∧ ls.getD j 0 = ((gR N o i').1 p).tm ∧ ks.getD j 0 = (p : Int)
  bs : Bs.length ≤ 500
section
variable {N : Nat} {o : Nat → Gop} {W4 wx w2 : World} {i : Nat} {a5 : Option Addr} {c5 : Nat} {Bs : List Ge} {y6 y7 : Value} {ls ks : List Int}
theorem AgSt.below (h : AgSt N o W4 i a5 c5 Bs y6 y7 ls ks wx) (hb : Below wx.heap.size wx w2) : AgSt N o W4 i a5 c5 Bs y6 y7 ls ks w2 :=
  ⟨h.bel.trans (hb.mono h.bel.size), h.best.below hb, OwnNums.belowQ h.l6 hb, OwnNums.belowQ h.l7 hb, h.apart, h.told, h.lens, h.lead, h.bs⟩
theorem AgSt.later (h : AgSt N o W4 i a5 c5 Bs y6 y7 ls ks wx) {j : Nat} (hij : i ≤ j) : AgSt N o W4 j a5 c5 Bs y6 y7 ls ks wx :=
  ⟨h.bel, h.best, h.l6, h.l7, h.apart, h.told.later hij, h.lens, fun q hq => by
    obtain ⟨i', p, e1, e2⟩ := h.lead q hq
    exact ⟨i', p, by omega, e2⟩, h.bs⟩
theorem AgSt.newBest (h : AgSt N o W4 i a5 c5 Bs y6 y7 ls ks wx) {a : Option Addr} {c : Nat} {Cs : List Ge} (h5 : LogR wx a c Cs) (ht : Told N o Cs i) (hb : Cs.length ≤ 500) : AgSt N o W4 i a c Cs y6 y7 ls ks wx :=
  ⟨h.bel, h5, h.l6, h.l7, h.apart, ht, h.lens, h.lead, hb⟩
theorem AgSt.kept7 (h : AgSt N o W4 i a5 c5 Bs y6 y7 ls ks wx) (hg6 : wx.grownBy w2 y6.ownBlock) : OwnNums w2 W4.heap.size 2 .i64 y7 ks := World.ownsRow.kept h.l7 hg6 (by
    cases hv : y7.ownBlock with
    | none => exact .inl rfl
    | some g => exact .inr (fun e => h.apart g e.symm hv))
/-- one that leads is written down, in both rows -/
theorem AgSt.newLead (h : AgSt N o W4 i a5 c5 Bs y6 y7 ls ks wx) {w3 : World} {v6 v7 : Value} {p : Nat} (hp : p < N) (hl : ((gR N o i).1 p).ld = true)
    (hO6 : OwnNums w2 W4.heap.size 2 .i64 v6 (ls ++ [((gR N o i).1 p).tm])) (hg6 : wx.grownBy w2 y6.ownBlock) (at6 : v6.ownBlock = y6.ownBlock ∨ ∃ g, v6.ownBlock = some g ∧ wx.heap.size ≤ g)
    (hO7 : OwnNums w3 W4.heap.size 2 .i64 v7 (ks ++ [(p : Int)])) (hg7 : w2.grownBy w3 y7.ownBlock) (at7 : v7.ownBlock = y7.ownBlock ∨ ∃ g, v7.ownBlock = some g ∧ w2.heap.size ≤ g) :
    AgSt N o W4 i a5 c5 Bs v6 v7 (ls ++ [((gR N o i).1 p).tm]) (ks ++ [(p : Int)]) w3 := by
  have L6 : ∀ g, y6.ownBlock = some g → W4.heap.size ≤ g := fun g hg => (World.ownsRow.lt h.l6 g hg).1
  have L7 : ∀ g, y7.ownBlock = some g → W4.heap.size ≤ g ∧ g < wx.heap.size := fun g hg => World.ownsRow.lt h.l7 g hg
  have l7b : OwnNums w2 W4.heap.size 2 .i64 y7 ks := World.ownsRow.kept h.l7 hg6 (by
    cases hv : y7.ownBlock with
    | none => exact .inl rfl
    | some g => exact .inr (fun e => h.apart g e.symm hv))
  have n67 : ∀ g, v6.ownBlock = some g → y7.ownBlock ≠ some g := fun g hg e => by
    rcases at6 with h6 | ⟨g', h6, hlt⟩
    · exact h.apart g (h6 ▸ hg) e
    · rw [hg] at h6
      have := Option.some.inj h6
      have := (L7 g e).2
      omega
  have A : Ap wx w3 := (Ap.own h.l6 hg6).trans (Ap.own l7b hg7)
  refine ⟨(h.bel.grown hg6 h.bel.size L6).grown hg7 (Nat.le_trans h.bel.size hg6.size) (fun g hg => (L7 g hg).1), h.best.ap A, ?_, hO7, ?_, h.told, by simp [h.lens], ?_, h.bs⟩
  · refine World.ownsRow.kept hO6 hg7 ?_
    cases hv : v6.ownBlock with
    | none => exact .inl rfl
    | some g => exact .inr (fun e => n67 g hv e.symm)
  · intro g hg e
    rcases at7 with h7 | ⟨g', h7, hlt⟩
    · exact n67 g hg (h7 ▸ e)
    · rw [e] at h7
      have := Option.some.inj h7
      have := (World.ownsRow.lt hO6 g hg).2
      omega
  · intro j hj
    by_cases hjl : j < ls.length
    · obtain ⟨i', q, e1, e2, e3, e4, e5⟩ := h.lead j hjl
      have hjk : j < ks.length := by rw [h.lens]; exact hjl
      refine ⟨i', q, e1, e2, e3, ?_, ?_⟩
      · rw [← e4]; simp [List.getD, List.getElem?_append_left hjl]
      · rw [← e5]; simp [List.getD, List.getElem?_append_left hjk]
    · have ej : j = ls.length := by simp at hj; omega
      refine ⟨i, p, Nat.le_refl _, hp, hl, ?_, ?_⟩
      · rw [ej]; simp [List.getD]
      · rw [ej, ← h.lens]; simp [List.getD]
end
end Go.Proofs.Ytmhkelfmciepaaa
namespace Go.Proofs.Ytmhkelfmciepaaa
open Go.RowKit
set_option linter.unusedVariables false
/-! A group goes: who has the newest log is elected by all, and what it proposes is committed by all. -/
theorem gNewer_iff (a b : List Ge) : gNewer a b = true ↔ gLast b < gLast a ∨ (gLast a = gLast b ∧ b.length < a.length) := by
  unfold gNewer; simp
theorem gNewer_no (a b : List Ge) : gNewer a b = false ↔ ¬ (gLast b < gLast a ∨ (gLast a = gLast b ∧ b.length < a.length)) := by
  rw [← gNewer_iff, Bool.not_eq_true]
/-- who has the newest log, the greatest term: as they are looked for -/
def gPick (s : Gst) : Nat → Nat
  | 0 => 0
  | k + 1 => if gNewer (s k).lg (s (gPick s k)).lg then k else gPick s k
def gTop (s : Gst) : Nat → Int
  | 0 => 0
  | k + 1 => if gTop s k < (s k).tm then (s k).tm else gTop s k
theorem gPick_lt (s : Gst) : ∀ n, 0 < n → gPick s n < n
  | 0, h => by omega
  | 1, _ => by unfold gPick; split <;> simp [gPick]
  | n + 2, _ => by
    have := gPick_lt s (n + 1) (by omega)
    unfold gPick
    split <;> omega
theorem gPick_max (s : Gst) : ∀ n p, p < n → gNewer (s p).lg (s (gPick s n)).lg = false
  | 0, p, h => by omega
  | n + 1, p, h => by
    unfold gPick
    by_cases hn : gNewer (s n).lg (s (gPick s n)).lg = true
    · rw [if_pos hn]
      rw [gNewer_iff] at hn
      rw [gNewer_no]
      by_cases e : p = n
      · subst e; omega
      · have := (gNewer_no _ _).1 (gPick_max s n p (by omega))
        omega
    · rw [if_neg hn]
      by_cases e : p = n
      · subst e; simpa using hn
      · exact gPick_max s n p (by omega)
theorem gTop_max (s : Gst) : ∀ n p, p < n → (s p).tm ≤ gTop s n
  | 0, p, h => by omega
  | n + 1, p, h => by
    unfold gTop
    by_cases e : p = n
    · subst e; split <;> omega
    · have := gTop_max s n p (by omega)
      split <;> omega
/-- a log has no more entries than operations were done -/
theorem gOne_lg (N i : Nat) (s : Gst) (o : Gop) (h : ∀ p, (s p).lg.length ≤ i) : ∀ p, ((gOne N s o).1 p).lg.length ≤ i + 1 := by
  have put : ∀ (s : Gst) (k : Nat) (m : Mb) (j : Nat), (∀ p, (s p).lg.length ≤ j) → m.lg.length ≤ j → ∀ p, (putM s k m p).lg.length ≤ j := by
    intro s k m j hs hm p
    unfold putM
    split
    · exact hm
    · exact hs p
  have gath : ∀ (k : Nat) (pe : List Int) (A : Nat → Bool) (s : Gst) (v : Nat), (∀ p, (s p).lg.length ≤ i) → ∀ p, ((gGath k pe A s v).1 p).lg.length ≤ i := by
    intro k pe
    induction pe with
    | nil => intro A s v hs p; exact hs p
    | cons q r ih =>
      intro A s v hs p
      unfold gGath
      split
      · exact ih _ _ _ hs p
      · refine ih _ _ _ (put _ _ _ _ hs ?_) p
        have := hs q.toNat
        unfold gVote gLate
        split <;> split <;> exact this
  have up : ∀ p, (s p).lg.length ≤ i + 1 := fun p => Nat.le_succ_of_le (h p)
  intro p
  unfold gOne
  split
  · show ((gDo N s o.mb.toNat o).1 p).lg.length ≤ i + 1
    generalize o.mb.toNat = k
    unfold gDo
    split
    · unfold gElect
      split
      · have g1 : ∀ p, ((gGath k o.pe (fun j => decide (j = k)) (gStart s k) 1).1 p).lg.length ≤ i := gath _ _ _ _ _ (fun p => by
          unfold gStart
          refine put _ _ _ _ h ?_ p
          exact h k)
        dsimp only
        split
        · refine Nat.le_succ_of_le (put _ _ _ _ g1 ?_ p)
          exact g1 k
        · exact Nat.le_succ_of_le (g1 p)
      · exact up p
    · split
      · unfold gProp
        split
        · exact up p
        · split
          · exact up p
          · split
            · exact up p
            · refine put _ _ _ _ up ?_ p
              have := h k
              show ((s k).lg ++ [_]).length ≤ i + 1
              simp; omega
      · split
        · unfold gCopy
          split
          · exact up p
          · split
            · exact up p
            · split
              · refine put _ _ _ _ up ?_ p
                exact up k
              · dsimp only
                refine put _ _ _ _ (put _ _ _ _ up ?_) ?_ p
                · exact up k
                have h1 := up o.dt.toNat
                have h2 := up k
                have h3 := gPart_le (s o.dt.toNat).lg (s k).lg
                show (gNext (s o.dt.toNat).lg (s k).lg).length ≤ i + 1
                unfold gNext
                split
                · exact h1
                · rw [List.length_append, List.length_take, List.length_drop]; omega
        · split
          · refine put _ _ _ _ up ?_ p
            exact up k
          · exact up p
  · exact up p
theorem gR_lgn (N : Nat) (o : Nat → Gop) : ∀ i p, ((gR N o i).1 p).lg.length ≤ i
  | 0, p => Nat.le_refl _
  | i + 1, p => gOne_lg N i _ _ (gR_lgn N o i) p
/-- all are asked -/
def gAll (N : Nat) : List Int := (List.range N).map Int.ofNat
theorem gath_all (k N : Nat) : ∀ (m a : Nat) (A : Nat → Bool) (s : Gst) (v : Nat), a + m = N → (∀ j, a ≤ j → A j = decide (j = k)) → A k = true → (∀ p, p < N → p ≠ k → gWill (s k) k (gLate (s k) (s p)) = true) →
    (gGath k ((List.range' a m).map Int.ofNat) A s v).2 + (if a ≤ k ∧ k < N then 1 else 0) = v + m ∧ (∀ p, a ≤ p → p < N → p ≠ k → (gGath k ((List.range' a m).map Int.ofNat) A s v).1 p = gVote (s k) k (s p)) ∧ (gGath k ((List.range' a m).map Int.ofNat) A s v).1 k = s k
  | 0, a, A, s, v, h, _, _, _ => ⟨by
      have : ¬ (a ≤ k ∧ k < N) := by omega
      simp [gGath, this], fun p h1 h2 _ => by omega, rfl⟩
  | m + 1, a, A, s, v, h, hA, hk, hw => by
    have e : (List.range' a (m + 1)).map Int.ofNat = Int.ofNat a :: (List.range' (a + 1) m).map Int.ofNat := by rw [List.range'_succ]; rfl
    rw [e]
    unfold gGath
    have ea : (Int.ofNat a).toNat = a := rfl
    rw [ea]
    by_cases hak : a = k
    · subst hak
      rw [if_pos hk]
      obtain ⟨q1, q2, q3⟩ := gath_all a N m (a + 1) A s v (by omega) (fun j hj => hA j (by omega)) hk hw
      refine ⟨?_, fun p h1 h2 h3 => q2 p (by omega) h2 h3, q3⟩
      rw [if_neg (by omega)] at q1
      rw [if_pos (by omega)]
      omega
    · have hAa : A a = false := by rw [hA a (Nat.le_refl _)]; simp [hak]
      rw [if_neg (by rw [hAa]; decide)]
      have hne : k ≠ a := fun e => hak e.symm
      have hsk : putM s a (gVote (s k) k (s a)) k = s k := putM_ne _ _ _ hne
      rw [hw a (by omega) hak]
      obtain ⟨q1, q2, q3⟩ := gath_all k N m (a + 1) (gAsked A a) (putM s a (gVote (s k) k (s a))) (v + true.toNat) (by omega) (fun j hj => by
          unfold gAsked
          rw [hA j (by omega)]
          have : j ≠ a := by omega
          simp [this]) (by unfold gAsked; simp [hk]) (fun p hp hpk => by
          rw [hsk]
          by_cases e : p = a
          · subst e
            rw [putM_self]
            have h0 := hw p hp hpk
            have hv : gVote (s k) k (s p) = { gLate (s k) (s p) with vt := (k : Int) } := by unfold gVote; rw [if_pos h0]
            rw [hv]
            have ht : (gLate (s k) (s p)).tm = (s k).tm := by
              unfold gWill at h0
              simp at h0
              exact h0.1.1
            have hl : gLate (s k) { gLate (s k) (s p) with vt := (k : Int) } = { gLate (s k) (s p) with vt := (k : Int) } := by
              unfold gLate at ht ⊢
              rw [if_neg]
              show ¬ _ < _
              dsimp only
              rw [ht]; omega
            rw [hl]
            unfold gWill at h0 ⊢
            simp at h0 ⊢
            exact ⟨h0.1.1, h0.2⟩
          · rw [putM_ne _ _ _ e]; exact hw p hp hpk)
      refine ⟨?_, fun p h1 h2 h3 => ?_, by rw [q3, hsk]⟩
      · have : (if a ≤ k ∧ k < N then 1 else 0) = (if a + 1 ≤ k ∧ k < N then 1 else 0) := by
          by_cases h1 : a + 1 ≤ k ∧ k < N
          · rw [if_pos h1, if_pos (by omega)]
          · rw [if_neg h1, if_neg (by omega)]
        rw [this]
        have : true.toNat = 1 := rfl
        omega
      · by_cases e : p = a
        · subst e
          have hin : ((List.range' (p + 1) m).map Int.ofNat).all (gIn N) = true := by
            rw [List.all_eq_true]
            intro x hx
            obtain ⟨y, hy, rfl⟩ := List.mem_map.1 hx
            have := List.mem_range'_1.1 hy
            unfold gIn
            simp
            omega
          obtain ⟨_, _, _, _, q4⟩ := gath_is N k ((List.range' (p + 1) m).map Int.ofNat) (gAsked A p) (putM s p (gVote (s k) k (s p))) (v + true.toNat) hin (by unfold gAsked; simp [hk])
          rw [q4 p (by unfold gAsked; simp), putM_self]
        · rw [q2 p (by omega) h2 h3, hsk, putM_ne _ _ _ e]
theorem gAll_in (N : Nat) : (gAll N).all (gIn N) = true := by
  unfold gAll
  rw [List.all_eq_true]
  intro x hx
  obtain ⟨y, hy, rfl⟩ := List.mem_map.1 hx
  have := List.mem_range.1 hy
  unfold gIn
  simp
  omega
theorem gVote_lg (c : Mb) (k : Nat) (m : Mb) : (gVote c k m).lg = m.lg := by
  unfold gVote gLate
  split <;> split <;> rfl
theorem gVote_tm (c : Mb) (k : Nat) (m : Mb) : (gVote c k m).tm = if m.tm < c.tm then c.tm else m.tm := by
  unfold gVote gLate
  split <;> split <;> rfl
/-- an election, whatever comes of it -/
theorem elect_some (N : Nat) (s : Gst) (k : Nat) (hk : k < N) :
    ((gElect N s k (gAll N)).1 k).tm = (s k).tm + 1 ∧ ∀ p, ((gElect N s k (gAll N)).1 p).lg = (s p).lg ∧ (p ≠ k → ((gElect N s k (gAll N)).1 p).tm ≤ max (s p).tm ((s k).tm + 1)) := by
  obtain ⟨q, _, _, g3, g4⟩ := gath_is N k (gAll N) (fun j => decide (j = k)) (gStart s k) 1 (gAll_in N) (by simp)
  have sk : gStart s k k = { s k with tm := (s k).tm + 1, vt := k, ld := false } := putM_self _ _ _
  have sp : ∀ p, p ≠ k → gStart s k p = s p := fun p hp => putM_ne _ _ _ hp
  have gk := g4 k (by simp)
  have H : ((gGath k (gAll N) (fun j => decide (j = k)) (gStart s k) 1).1 k).tm = (s k).tm + 1 ∧ ∀ p, ((gGath k (gAll N) (fun j => decide (j = k)) (gStart s k) 1).1 p).lg = (s p).lg ∧ (p ≠ k → ((gGath k (gAll N) (fun j => decide (j = k)) (gStart s k) 1).1 p).tm ≤ max (s p).tm ((s k).tm + 1)) := by
    refine ⟨by rw [gk, sk], fun p => ?_⟩
    by_cases e : p = k
    · subst e
      exact ⟨by rw [gk, sk], fun h => absurd rfl h⟩
    · rcases g3 p with h | ⟨_, h⟩
      · rw [h, sp p e]; exact ⟨rfl, fun _ => by omega⟩
      · rw [h, sp p e, gVote_lg]
        refine ⟨rfl, fun _ => ?_⟩
        rw [gVote_tm, sk]
        dsimp only
        split <;> omega
  unfold gElect
  rw [if_pos (gAll_in N)]
  dsimp only
  split
  · dsimp only
    refine ⟨by rw [putM_self]; exact H.1, fun p => ?_⟩
    by_cases e : p = k
    · subst e
      rw [putM_self]
      exact ⟨(H.2 p).1, fun h => absurd rfl h⟩
    · rw [putM_ne _ _ _ e]
      exact H.2 p
  · exact H
/-- an election that all vote for -/
theorem elect_all (N : Nat) (s : Gst) (k : Nat) (hk : k < N) (hmax : ∀ p, p < N → gNewer (s p).lg (s k).lg = false) (htm : ∀ p, p < N → (s p).tm ≤ (s k).tm) :
    (gElect N s k (gAll N)).1 k = gLead N k { s k with tm := (s k).tm + 1, vt := k, ld := false } ∧ ∀ p, p < N → p ≠ k → ((gElect N s k (gAll N)).1 p).tm = (s k).tm + 1 := by
  have sk : gStart s k k = { s k with tm := (s k).tm + 1, vt := k, ld := false } := putM_self _ _ _
  have sp : ∀ p, p ≠ k → gStart s k p = s p := fun p hp => putM_ne _ _ _ hp
  have e0 : gAll N = (List.range' 0 N).map Int.ofNat := by unfold gAll; rw [List.range_eq_range']
  have hw : ∀ p, p < N → p ≠ k → gWill (gStart s k k) k (gLate (gStart s k k) (gStart s k p)) = true := fun p hp e => by
    have h1 := htm p hp
    have h2 := hmax p hp
    rw [sk, sp p e]
    unfold gWill gLate
    rw [if_pos (by dsimp only; omega)]
    simp [h2]
  obtain ⟨q1, q2, q3⟩ := gath_all k N N 0 (fun j => decide (j = k)) (gStart s k) 1 (by omega) (fun _ _ => rfl) (by simp) hw
  rw [← e0] at q1 q2 q3
  rw [if_pos (by omega)] at q1
  unfold gElect
  rw [if_pos (gAll_in N)]
  dsimp only
  rw [if_pos (by omega)]
  dsimp only
  refine ⟨by rw [putM_self, q3, sk], fun p hp e => ?_⟩
  rw [putM_ne _ _ _ e, q2 p (by omega) hp e, sp p e, gVote_tm, sk]
  have := htm p hp
  dsimp only
  rw [if_pos (by omega)]
/-- how many copies stand ahead of the k-th turn -/
def gCp (N L : Nat) : Nat → Nat
  | 0 => 0
  | k + 1 => gCp N L k + (if k % N = L then 0 else 1)
theorem gCnt_top (N : Nat) (m : Mb) (n : Nat) (hn : 0 < n) (hl : m.lg.length = n) (ht : (m.lg.getD (n - 1) ge0).tm = m.tm) (hc : m.cm ≤ n) (hh : N < 2 * gHave m.mt n) : gCnt N m n = n := by
  obtain ⟨j, rfl⟩ : ∃ j, n = j + 1 := ⟨n - 1, by omega⟩
  unfold gCnt
  by_cases h : j + 1 ≤ m.cm
  · rw [if_pos h]; omega
  · rw [if_neg h, if_pos ⟨by simpa using ht, hh⟩]
theorem gCnt_le (N : Nat) (m : Mb) : ∀ n, m.cm ≤ gCnt N m n ∧ gCnt N m n ≤ max m.cm n
  | 0 => by unfold gCnt; omega
  | n + 1 => by
    have := gCnt_le N m n
    unfold gCnt
    split
    · omega
    · split <;> omega
/-- what the leader is while it copies: LL its log, of n entries, the last of its own term -/
structure Lds (N : Nat) (s : Gst) (L : Nat) (T : Int) (LL : List Ge) : Prop where
  ld : (s L).ld = true
  tm : (s L).tm = T
  lg : (s L).lg = LL
  pos : 0 < LL.length
  own : (LL.getD (LL.length - 1) ge0).tm = T
  cm : (s L).cm ≤ LL.length
  mtl : (s L).mt.length = N
  mine : (s L).mt.getD L 0 = (LL.length : Int)
  cnt : N < 2 * gHave (s L).mt LL.length → (s L).cm = LL.length
  oth : ∀ p, p < N → (s p).tm ≤ T
/-- a leader proposes -/
theorem prop_step (N : Nat) (s : Gst) (L : Nat) (hL : L < N) (tx : ByteArray) (htx : tx.size ≤ 1000) (ld : (s L).ld = true) (hlg : (s L).lg.length < 500) (hcm : (s L).cm ≤ (s L).lg.length) (hmt : (s L).mt.length = N) (hoth : ∀ p, p < N → (s p).tm ≤ (s L).tm) :
    Lds N (gProp N s L tx).1 L (s L).tm ((s L).lg ++ [⟨(s L).tm, tx⟩]) := by
  have e1 : gProp N s L tx = (putM s L (gCount N { s L with lg := (s L).lg ++ [⟨(s L).tm, tx⟩], mt := (s L).mt.set L ((s L).lg.length + 1 : Nat) }), ⟨0, 0, 0⟩) := by
    unfold gProp
    rw [if_neg (by rw [ld]; decide), if_neg (by omega), if_neg (by omega)]
  rw [e1]
  have hl : ((s L).lg ++ [(⟨(s L).tm, tx⟩ : Ge)]).length = (s L).lg.length + 1 := by simp
  have ow : (((s L).lg ++ [(⟨(s L).tm, tx⟩ : Ge)]).getD ((s L).lg.length + 1 - 1) ge0).tm = (s L).tm := tmAt_end (s L).lg ⟨(s L).tm, tx⟩
  have cl := gCnt_le N { s L with lg := (s L).lg ++ [⟨(s L).tm, tx⟩], mt := (s L).mt.set L ((s L).lg.length + 1 : Nat) } ((s L).lg.length + 1)
  refine ⟨?_, ?_, ?_, by rw [hl]; omega, by rw [hl]; exact ow, ?_, ?_, ?_, ?_, ?_⟩
  · dsimp only; rw [putM_self]; exact ld
  · dsimp only; rw [putM_self]; rfl
  · dsimp only; rw [putM_self]; rfl
  · dsimp only; rw [putM_self, hl]
    show gCnt N _ ((s L).lg ++ [(⟨(s L).tm, tx⟩ : Ge)]).length ≤ _
    rw [hl]
    have h2 := cl.2
    dsimp only at h2
    omega
  · dsimp only; rw [putM_self]; show ((s L).mt.set L _).length = N; rw [List.length_set]; exact hmt
  · dsimp only; rw [putM_self, hl]; show ((s L).mt.set L _).getD L 0 = _
    rw [List.getD_eq_getElem?_getD, List.getElem?_set_self (by omega)]; rfl
  · dsimp only; rw [putM_self, hl]
    intro h
    show gCnt N _ ((s L).lg ++ [(⟨(s L).tm, tx⟩ : Ge)]).length = _
    rw [hl]
    exact gCnt_top N _ _ (by omega) hl ow (by dsimp only; omega) h
  · intro p hp
    dsimp only
    by_cases e : p = L
    · subst e; rw [putM_self]; exact Int.le_refl _
    · rw [putM_ne _ _ _ e]; exact hoth p hp
theorem gNext_ge (a b : List Ge) : b.length ≤ (gNext a b).length := by
  have := gPart_le a b
  unfold gNext
  split
  · omega
  · rw [List.length_append, List.length_take, List.length_drop]; omega
/-- a leader copies -/
theorem copy_step (N : Nat) (s : Gst) (L : Nat) (hL : L < N) (T : Int) (LL : List Ge) (h : Lds N s L T LL) (t : Nat) (ht : t < N) (htL : t ≠ L) :
    Lds N (gCopy N s L (t : Int)).1 L T LL ∧ ((gCopy N s L (t : Int)).1 L).mt = (s L).mt.set t (LL.length : Int) ∧ (∀ p, p ≠ L → p ≠ t → (gCopy N s L (t : Int)).1 p = s p) ∧ (((gCopy N s L (t : Int)).1 L).cm = LL.length → LL.length ≤ ((gCopy N s L (t : Int)).1 t).cm) := by
  have htt : ((t : Int)).toNat = t := by omega
  obtain ⟨lead, hlead⟩ : ∃ m, m = gCount N { s L with mt := (s L).mt.set t ((s L).lg.length : Int) } := ⟨_, rfl⟩
  obtain ⟨nx, hnx⟩ : ∃ m, m = gNext (s t).lg (s L).lg := ⟨_, rfl⟩
  have e1 : (gCopy N s L (t : Int)).1 = putM (putM s L lead) t { s t with tm := (s L).tm, vt := if (s t).tm < (s L).tm then -1 else (s t).vt, ld := false, lg := nx, cm := max (s t).cm (min lead.cm nx.length) } := by
    unfold gCopy
    rw [if_neg, if_neg (by rw [h.ld]; decide), if_neg]
    · dsimp only; rw [htt, ← hlead, ← hnx]
    · have := h.oth t ht; have := h.tm; rw [htt]; omega
    · intro e
      rcases e with e | e
      · unfold gIn at e; simp at e; omega
      · omega
  have hnl : LL.length ≤ nx.length := by rw [hnx, h.lg]; exact gNext_ge _ _
  have lL : lead.lg = LL := by rw [hlead]; exact h.lg
  have lt : lead.tm = T := by rw [hlead]; exact h.tm
  have lm : lead.mt = (s L).mt.set t (LL.length : Int) := by rw [hlead]; show (s L).mt.set t _ = _; rw [h.lg]
  have ll : lead.ld = true := by rw [hlead]; exact h.ld
  have lc : lead.cm = gCnt N { s L with mt := (s L).mt.set t ((s L).lg.length : Int) } LL.length := by rw [hlead]; show gCnt N _ (s L).lg.length = _; rw [h.lg]
  have cl := gCnt_le N { s L with mt := (s L).mt.set t ((s L).lg.length : Int) } LL.length
  have hc := h.cm
  have lcm : lead.cm ≤ LL.length := by
    rw [lc]
    exact Nat.le_trans cl.2 (show max (s L).cm LL.length ≤ LL.length by omega)
  have eL : putM (putM s L lead) t { s t with tm := (s L).tm, vt := if (s t).tm < (s L).tm then -1 else (s t).vt, ld := false, lg := nx, cm := max (s t).cm (min lead.cm nx.length) } L = lead := by
    rw [putM_ne _ _ _ (fun e => htL e.symm), putM_self]
  rw [e1]
  refine ⟨⟨?_, ?_, ?_, h.pos, h.own, ?_, ?_, ?_, ?_, ?_⟩, ?_, ?_, ?_⟩
  · rw [eL]; exact ll
  · rw [eL]; exact lt
  · rw [eL]; exact lL
  · rw [eL]; exact lcm
  · rw [eL, lm, List.length_set]; exact h.mtl
  · rw [eL, lm, List.getD_eq_getElem?_getD, List.getElem?_set_ne htL, ← List.getD_eq_getElem?_getD]; exact h.mine
  · rw [eL, lm]
    intro hh
    rw [lc]
    refine gCnt_top N _ _ h.pos (by show (s L).lg.length = _; rw [h.lg]) ?_ hc ?_
    · show ((s L).lg.getD _ ge0).tm = (s L).tm
      rw [h.lg, h.tm]; exact h.own
    · show N < 2 * gHave ((s L).mt.set t _) _
      rw [h.lg]; exact hh
  · intro p hp
    by_cases e : p = t
    · subst e; rw [putM_self]; have := h.tm; show (s L).tm ≤ T; omega
    · rw [putM_ne _ _ _ e]
      by_cases e2 : p = L
      · subst e2; rw [putM_self, lt]; exact Int.le_refl _
      · rw [putM_ne _ _ _ e2]; exact h.oth p hp
  · rw [eL]; exact lm
  · intro p h1 h2
    rw [putM_ne _ _ _ h2, putM_ne _ _ _ h1]
  · rw [eL, putM_self]
    intro h1
    show _ ≤ max (s t).cm (min lead.cm nx.length)
    omega
/-- while the leader copies, turn by turn -/
structure Cps (N : Nat) (s : Gst) (L : Nat) (T : Int) (LL : List Ge) (k : Nat) : Prop where
  lds : Lds N s L T LL
  mts : ∀ p, p < N → p < k → p ≠ L → (s L).mt.getD p 0 = (LL.length : Int)
  cms : ∀ p, p < N → N + p < k → p ≠ L → LL.length ≤ (s p).cm
theorem have_all {mt : List Int} {N n : Nat} (hl : mt.length = N) (h : ∀ p, p < N → mt.getD p 0 = (n : Int)) : gHave mt n = N := by
  rw [gHave_range hl]
  have : ∀ l : List Nat, (∀ x ∈ l, x < N) → l.countP (fun j => decide ((n : Int) ≤ mt.getD j 0)) = l.length := by
    intro l hx
    rw [List.countP_eq_length]
    intro x hxl
    rw [h x (hx x hxl)]
    simp
  rw [this _ (fun x hx => List.mem_range.1 hx), List.length_range]
theorem Lds.full {N : Nat} {s : Gst} {L : Nat} {T : Int} {LL : List Ge} (h : Lds N s L T LL) (hL : L < N) (hm : ∀ p, p < N → p ≠ L → (s L).mt.getD p 0 = (LL.length : Int)) : (s L).cm = LL.length :=
  h.cnt (by
    rw [have_all h.mtl (fun p hp => by
      by_cases e : p = L
      · subst e; exact h.mine
      · exact hm p hp e)]
    omega)
theorem Cps.step {N : Nat} {s : Gst} {L : Nat} {T : Int} {LL : List Ge} {k : Nat} (h : Cps N s L T LL k) (hL : L < N) (hk : k < 2 * N) (hne : k % N ≠ L) : Cps N (gCopy N s L ((k % N : Nat) : Int)).1 L T LL (k + 1) := by
  have hkN : k % N < N := Nat.mod_lt _ (by omega)
  obtain ⟨c1, c2, c3, c4⟩ := copy_step N s L hL T LL h.lds (k % N) hkN hne
  have M : ∀ p, p < N → p < k + 1 → p ≠ L → ((gCopy N s L ((k % N : Nat) : Int)).1 L).mt.getD p 0 = (LL.length : Int) := fun p hp hpk e => by
    rw [c2, List.getD_eq_getElem?_getD]
    by_cases e2 : k % N = p
    · rw [e2, List.getElem?_set_self (by rw [h.lds.mtl]; exact hp)]; rfl
    · rw [List.getElem?_set_ne e2, ← List.getD_eq_getElem?_getD]
      refine h.mts p hp ?_ e
      rcases Nat.lt_or_ge p k with h' | h'
      · exact h'
      · have : p = k := by omega
        subst this
        exact absurd (Nat.mod_eq_of_lt hp) e2
  refine ⟨c1, M, fun p hp hpk e => ?_⟩
  have F := c1.full hL (fun q hq e => M q hq (by omega) e)
  by_cases e2 : p = k % N
  · rw [e2]; exact c4 F
  · rw [c3 p e e2]
    refine h.cms p hp ?_ e
    have : N + p ≠ k := fun e3 => e2 (by rw [← e3, Nat.add_mod_left, Nat.mod_eq_of_lt hp])
    omega
/-- the turn of the leader itself -/
theorem Cps.skip {N : Nat} {s : Gst} {L : Nat} {T : Int} {LL : List Ge} {k : Nat} (h : Cps N s L T LL k) (he : k % N = L) : Cps N s L T LL (k + 1) := by
  refine ⟨h.lds, fun p hp hpk e => h.mts p hp ?_ e, fun p hp hpk e => h.cms p hp ?_ e⟩
  · have : p ≠ k := fun e2 => e (by rw [← he, ← e2, Nat.mod_eq_of_lt hp])
    omega
  · have : N + p ≠ k := fun e2 => e (by rw [← he, ← e2, Nat.add_mod_left, Nat.mod_eq_of_lt hp])
    omega
/-- at the end -/
theorem goes_end {N : Nat} {s : Gst} {g : Gh} {L : Nat} {T : Int} {LL : List Ge} (hs : SafeG N s g) (h : Cps N s L T LL (2 * N)) (hL : L < N) : ∀ p, p < N → (s p).cm = LL.length ∧ LL.length ≤ (s p).lg.length ∧ (s p).lg.take LL.length = LL := by
  have cL : (s L).cm = LL.length := h.lds.full hL (fun q hq e => h.mts q hq (by omega) e)
  obtain ⟨l1, l2, _⟩ := hs.lead L hL h.lds.ld
  rw [h.lds.tm] at l1 l2
  rw [h.lds.lg] at l2
  have le : ∀ p, p < N → (s p).cm ≤ LL.length := fun p hp => by
    obtain ⟨a, b⟩ := hs.cms p hp
    have hl : ((s p).lg.take (s p).cm).length = (s p).cm := by rw [List.length_take]; omega
    rcases b with b | ⟨T0, n0, t1, t2, t3, t4, t5, t6, t7, t8⟩
    · rw [b] at hl; simp at hl; omega
    · have q := hs.keptAll t3 t5 t6 (Int.le_trans t1 (h.lds.oth p hp)) (by rw [l1]; simp)
      have := gtake_len q t4
      rw [l2] at this
      omega
  have cms : ∀ p, p < N → (s p).cm = LL.length := fun p hp => by
    by_cases e : p = L
    · rw [e]; exact cL
    · have := h.cms p hp (by omega) e
      have := le p hp
      omega
  intro p hp
  obtain ⟨a, b⟩ := hs.cms p hp
  obtain ⟨c, d⟩ := hs.cms L hL
  have hc := cms p hp
  refine ⟨hc, by omega, ?_⟩
  have q := CertT.agree hs b d LL.length (by rw [List.length_take]; omega) (by rw [List.length_take, h.lds.lg]; omega)
  rw [List.take_take, List.take_take, h.lds.lg, Nat.min_eq_left (by omega), Nat.min_eq_left (by omega), List.take_length] at q
  exact q
theorem gR_did (N : Nat) (o : Nat → Gop) (i L : Nat) (hL : L < N) (hm : (o i).mb = (L : Int)) : (gR N o (i + 1)).1 = (gDo N (gR N o i).1 L (o i)).1 := by
  show (gOne N (gR N o i).1 (o i)).1 = _
  unfold gOne
  rw [if_pos (by unfold gIn; rw [hm]; simp; omega)]
  have : (o i).mb.toNat = L := by omega
  dsimp only
  rw [this]
/-- FnGroupGoes' operations, done -/
theorem goes_run (N n0 E L : Nat) (o : Nat → Gop) (tx : Nat → ByteArray) (hL : L < N) (h0 : n0 ≤ 400) (hE1 : 1 ≤ E)
    (hmax : ∀ p, p < N → gNewer ((gR N o n0).1 p).lg ((gR N o n0).1 L).lg = false)
    (hE : ∀ p, p < N → ((gR N o n0).1 p).tm ≤ ((gR N o n0).1 L).tm + (E : Int) - 1)
    (hel : ∀ i, i < E → (o (n0 + i)).kd = 1 ∧ (o (n0 + i)).mb = (L : Int) ∧ (o (n0 + i)).pe = gAll N)
    (hpr : ∀ i, i < 3 → (o (n0 + E + i)).kd = 2 ∧ (o (n0 + E + i)).mb = (L : Int) ∧ (o (n0 + E + i)).tx = tx i ∧ (tx i).size ≤ 1000)
    (hcp : ∀ k, k < 2 * N → k % N ≠ L → (o (n0 + E + 3 + gCp N L k)).kd = 3 ∧ (o (n0 + E + 3 + gCp N L k)).mb = (L : Int) ∧ (o (n0 + E + 3 + gCp N L k)).dt = ((k % N : Nat) : Int)) :
    ∃ (B : List Ge) (T : Int), ((gR N o (n0 + E + 3 + gCp N L (2 * N))).1 L).ld = true ∧ ((gR N o (n0 + E + 3 + gCp N L (2 * N))).1 L).lg = B ++ [⟨T, tx 0⟩, ⟨T, tx 1⟩, ⟨T, tx 2⟩] ∧ ∀ p, p < N → ((gR N o (n0 + E + 3 + gCp N L (2 * N))).1 p).cm = B.length + 3 ∧ B.length + 3 ≤ ((gR N o (n0 + E + 3 + gCp N L (2 * N))).1 p).lg.length ∧ ((gR N o (n0 + E + 3 + gCp N L (2 * N))).1 p).lg.take (B.length + 3) = B ++ [⟨T, tx 0⟩, ⟨T, tx 1⟩, ⟨T, tx 2⟩] := by
  obtain ⟨t0, ht0⟩ : ∃ t, t = ((gR N o n0).1 L).tm := ⟨_, rfl⟩
  rw [← ht0] at hE
  have dE : ∀ i, i < E → (gR N o (n0 + i + 1)).1 = (gElect N (gR N o (n0 + i)).1 L (gAll N)).1 := fun i hi => by
    obtain ⟨a, b, c⟩ := hel i hi
    rw [gR_did N o (n0 + i) L hL b]
    unfold gDo
    rw [if_pos a, c]
  have EL : ∀ j, j ≤ E - 1 → ((gR N o (n0 + j)).1 L).tm = t0 + (j : Int) ∧ ∀ p, p < N → ((gR N o (n0 + j)).1 p).lg = ((gR N o n0).1 p).lg ∧ ((gR N o (n0 + j)).1 p).tm ≤ t0 + (E : Int) - 1 := by
    intro j
    induction j with
    | zero => intro _; exact ⟨by rw [ht0]; simp, fun p hp => ⟨rfl, hE p hp⟩⟩
    | succ j ih =>
      intro hj
      obtain ⟨a, b⟩ := ih (by omega)
      obtain ⟨c, d⟩ := elect_some N (gR N o (n0 + j)).1 L hL
      have e : (gR N o (n0 + (j + 1))).1 = (gElect N (gR N o (n0 + j)).1 L (gAll N)).1 := dE j (by omega)
      rw [e]
      refine ⟨by rw [c, a]; push_cast; omega, fun p hp => ⟨(d p).1.trans (b p hp).1, ?_⟩⟩
      by_cases ep : p = L
      · rw [ep, c, a]; omega
      · have := (d p).2 ep
        have := (b p hp).2
        rw [a] at *
        omega
  obtain ⟨a, b⟩ := EL (E - 1) (Nat.le_refl _)
  have e1 : (gR N o (n0 + E)).1 = (gElect N (gR N o (n0 + (E - 1))).1 L (gAll N)).1 := by
    have := dE (E - 1) (by omega)
    rw [show n0 + (E - 1) + 1 = n0 + E by omega] at this
    exact this
  obtain ⟨c, d⟩ := elect_all N (gR N o (n0 + (E - 1))).1 L hL (fun p hp => by rw [(b p hp).1, (b L hL).1]; exact hmax p hp) (fun p hp => by rw [a]; have := (b p hp).2; omega)
  rw [← e1] at c d
  obtain ⟨T, hT⟩ : ∃ T, T = ((gR N o (n0 + (E - 1))).1 L).tm + 1 := ⟨_, rfl⟩
  rw [← hT] at c d
  obtain ⟨B, hB⟩ : ∃ B, B = ((gR N o (n0 + E)).1 L).lg := ⟨_, rfl⟩
  have l1 : ((gR N o (n0 + E)).1 L).ld = true := by rw [c]; rfl
  have l2 : ((gR N o (n0 + E)).1 L).tm = T := by rw [c]; rfl
  have l3 : B.length ≤ n0 := by
    rw [hB, c]
    show ((gR N o (n0 + (E - 1))).1 L).lg.length ≤ n0
    rw [(b L hL).1]
    exact gR_lgn N o n0 L
  have l4 : ∀ p, p < N → ((gR N o (n0 + E)).1 p).tm ≤ T := fun p hp => by
    by_cases ep : p = L
    · rw [ep, l2]; exact Int.le_refl _
    · rw [d p hp ep]; exact Int.le_refl _
  have dP : ∀ i, i < 3 → (gR N o (n0 + E + i + 1)).1 = (gProp N (gR N o (n0 + E + i)).1 L (tx i)).1 := fun i hi => by
    obtain ⟨a, b, c, _⟩ := hpr i hi
    rw [gR_did N o (n0 + E + i) L hL b]
    unfold gDo
    rw [if_neg (by rw [a]; decide), if_pos a, c]
  have d0 : (gR N o (n0 + E + 1)).1 = (gProp N (gR N o (n0 + E)).1 L (tx 0)).1 := dP 0 (by omega)
  have d1 : (gR N o (n0 + E + 2)).1 = (gProp N (gR N o (n0 + E + 1)).1 L (tx 1)).1 := dP 1 (by omega)
  have d2 : (gR N o (n0 + E + 3)).1 = (gProp N (gR N o (n0 + E + 2)).1 L (tx 2)).1 := dP 2 (by omega)
  have P1 := prop_step N (gR N o (n0 + E)).1 L hL (tx 0) (hpr 0 (by omega)).2.2.2 l1 (by rw [← hB]; omega) ((gHist N o (n0 + E)).2.cms L hL).1 ((gHist N o (n0 + E)).2.mtl L hL) (fun p hp => by rw [l2]; exact l4 p hp)
  rw [← d0, l2, ← hB] at P1
  have P2 := prop_step N (gR N o (n0 + E + 1)).1 L hL (tx 1) (hpr 1 (by omega)).2.2.2 P1.ld (by rw [P1.lg]; simp; omega) (by rw [P1.lg]; exact P1.cm) P1.mtl (fun p hp => by rw [P1.tm]; exact P1.oth p hp)
  rw [← d1, P1.tm, P1.lg] at P2
  have P3 := prop_step N (gR N o (n0 + E + 2)).1 L hL (tx 2) (hpr 2 (by omega)).2.2.2 P2.ld (by rw [P2.lg]; simp; omega) (by rw [P2.lg]; exact P2.cm) P2.mtl (fun p hp => by rw [P2.tm]; exact P2.oth p hp)
  rw [← d2, P2.tm, P2.lg] at P3
  have eL : B ++ [(⟨T, tx 0⟩ : Ge)] ++ [⟨T, tx 1⟩] ++ [⟨T, tx 2⟩] = B ++ [⟨T, tx 0⟩, ⟨T, tx 1⟩, ⟨T, tx 2⟩] := by simp
  rw [eL] at P3
  have hlen : (B ++ [(⟨T, tx 0⟩ : Ge), ⟨T, tx 1⟩, ⟨T, tx 2⟩]).length = B.length + 3 := by simp
  have C : ∀ k, k ≤ 2 * N → Cps N (gR N o (n0 + E + 3 + gCp N L k)).1 L T (B ++ [⟨T, tx 0⟩, ⟨T, tx 1⟩, ⟨T, tx 2⟩]) k := by
    intro k
    induction k with
    | zero => intro _; exact ⟨P3, fun p _ h _ => by omega, fun p _ h _ => by omega⟩
    | succ k ih =>
      intro hk
      have h := ih (by omega)
      by_cases e : k % N = L
      · have e2 : gCp N L (k + 1) = gCp N L k := by show gCp N L k + _ = _; rw [if_pos e]; rfl
        rw [e2]
        exact h.skip e
      · have e2 : gCp N L (k + 1) = gCp N L k + 1 := by show gCp N L k + _ = _; rw [if_neg e]
        obtain ⟨x, y, z⟩ := hcp k (by omega) e
        rw [e2, ← Nat.add_assoc, gR_did N o _ L hL y]
        unfold gDo
        rw [if_neg (by rw [x]; decide), if_neg (by rw [x]; decide), if_pos x, z]
        exact h.step hL (by omega) e
  have F := C (2 * N) (Nat.le_refl _)
  have G := goes_end (gHist N o (n0 + E + 3 + gCp N L (2 * N))).2 F hL
  rw [hlen] at G
  exact ⟨B, T, F.lds.ld, F.lds.lg, G⟩
end Go.Proofs.Ytmhkelfmciepaaa
namespace Go.Proofs.Ytmhkelfmciepaaa
open Go.RowKit
set_option linter.unusedVariables false
/-! What FnGroupGoes lays together. -/
theorem gR_congr (N : Nat) (o o' : Nat → Gop) : ∀ n, (∀ i, i < n → o i = o' i) → gR N o n = gR N o' n
  | 0, _ => rfl
  | n + 1, h => by
    have q := gR_congr N o o' n (fun i hi => h i (by omega))
    show ((gOne N (gR N o n).1 (o n)).1, _) = ((gOne N (gR N o' n).1 (o' n)).1, _)
    rw [q, h n (by omega)]
def qE (N Ld : Nat) (pa : Option Addr) (pc : Nat) : Gq := ⟨1, (Ld : Int), 0, gAll N, ⟨#[]⟩, pa, pc⟩
def qP (Ld : Nat) (t : ByteArray) : Gq := ⟨2, (Ld : Int), 0, [], t, none, 0⟩
def qC (Ld t : Nat) : Gq := ⟨3, (Ld : Int), (t : Int), [], ⟨#[]⟩, none, 0⟩
def cps (N Ld : Nat) : Nat → List Gq
  | 0 => []
  | k + 1 => cps N Ld k ++ (if k % N = Ld then [] else [qC Ld (k % N)])
theorem cps_len (N Ld : Nat) : ∀ k, (cps N Ld k).length = gCp N Ld k
  | 0 => rfl
  | k + 1 => by
    show (cps N Ld k ++ _).length = gCp N Ld k + _
    rw [List.length_append, cps_len N Ld k]
    split <;> rfl
theorem cps_le (N Ld : Nat) : ∀ k, gCp N Ld k ≤ k
  | 0 => Nat.le_refl _
  | k + 1 => by
    have := cps_le N Ld k
    show gCp N Ld k + _ ≤ _
    split <;> omega
theorem cps_at (N Ld : Nat) : ∀ m k, k < m → k % N ≠ Ld → (cps N Ld m)[gCp N Ld k]? = some (qC Ld (k % N))
  | 0, k, h, _ => by omega
  | m + 1, k, h, hne => by
    show (cps N Ld m ++ _)[_]? = _
    by_cases e : k = m
    · subst e
      rw [if_neg hne, List.getElem?_append_right (by rw [cps_len]; exact Nat.le_refl _), cps_len]
      simp
    · have q := cps_at N Ld m k (by omega) hne
      rw [List.getElem?_append_left (List.getElem?_eq_some_iff.1 q).1]
      exact q
theorem cps_mem (N Ld : Nat) : ∀ m x, x ∈ cps N Ld m → ∃ t, x = qC Ld t
  | 0, x, h => by simp [cps] at h
  | m + 1, x, h => by
    rcases List.mem_append.1 (show x ∈ cps N Ld m ++ _ from h) with h | h
    · exact cps_mem N Ld m x h
    · by_cases e : m % N = Ld
      · rw [if_pos e] at h; simp at h
      · rw [if_neg e] at h; simp at h; exact ⟨_, h⟩
/-- all operations -/
def goAll (N Ld E : Nat) (L : List Gq) (pa : Option Addr) (pc : Nat) (tx : Nat → ByteArray) (k : Nat) : List Gq :=
  L ++ List.replicate E (qE N Ld pa pc) ++ [qP Ld (tx 0), qP Ld (tx 1), qP Ld (tx 2)] ++ cps N Ld k
theorem gqAt_some {L : List Gq} {i : Nat} {x : Gq} (h : L[i]? = some x) : gqAt L i = x := by
  unfold gqAt; rw [List.getD_eq_getElem?_getD, h]; rfl
theorem goes_all (N : Nat) (L : List Gq) (hN : 1 ≤ N) (hL : L.length ≤ 400) (pa : Option Addr) (pc : Nat) (tx : Nat → ByteArray) (htx : ∀ i, (tx i).size ≤ 1000) (s0 : Gst) (hs0 : s0 = (gR N (gopAt L) L.length).1) (Ld E : Nat) (hLd : Ld = gPick s0 N) (hE : (E : Int) = gTop s0 N - (s0 Ld).tm + 1) :
    ∃ (B : List Ge) (T : Int), ((gR N (gopAt (goAll N Ld E L pa pc tx (2 * N))) (goAll N Ld E L pa pc tx (2 * N)).length).1 Ld).ld = true ∧ ((gR N (gopAt (goAll N Ld E L pa pc tx (2 * N))) (goAll N Ld E L pa pc tx (2 * N)).length).1 Ld).lg = B ++ [⟨T, tx 0⟩, ⟨T, tx 1⟩, ⟨T, tx 2⟩] ∧ ∀ p, p < N → ((gR N (gopAt (goAll N Ld E L pa pc tx (2 * N))) (goAll N Ld E L pa pc tx (2 * N)).length).1 p).cm = B.length + 3 ∧ B.length + 3 ≤ ((gR N (gopAt (goAll N Ld E L pa pc tx (2 * N))) (goAll N Ld E L pa pc tx (2 * N)).length).1 p).lg.length ∧ ((gR N (gopAt (goAll N Ld E L pa pc tx (2 * N))) (goAll N Ld E L pa pc tx (2 * N)).length).1 p).lg.take (B.length + 3) = B ++ [⟨T, tx 0⟩, ⟨T, tx 1⟩, ⟨T, tx 2⟩] := by
  have hLN : Ld < N := by rw [hLd]; exact gPick_lt s0 N (by omega)
  have hlen : (goAll N Ld E L pa pc tx (2 * N)).length = L.length + E + 3 + gCp N Ld (2 * N) := by
    unfold goAll
    simp only [List.length_append, List.length_replicate, List.length_cons, List.length_nil, cps_len]
  have hA : ∀ i, i < L.length → gopAt (goAll N Ld E L pa pc tx (2 * N)) i = gopAt L i := fun i hi => by
    have e : gqAt (goAll N Ld E L pa pc tx (2 * N)) i = gqAt L i := by
      unfold gqAt goAll
      rw [List.getD_eq_getElem?_getD, List.getD_eq_getElem?_getD, List.append_assoc, List.append_assoc, List.getElem?_append_left hi]
    unfold gopAt
    rw [e]
  have h0 : (gR N (gopAt (goAll N Ld E L pa pc tx (2 * N))) L.length).1 = s0 := by rw [hs0, gR_congr N _ _ L.length hA]
  have ht : (s0 Ld).tm ≤ gTop s0 N := gTop_max s0 N Ld hLN
  rw [hlen]
  refine goes_run N L.length E Ld _ tx hLN hL (by omega) ?_ ?_ ?_ ?_ ?_
  · intro p hp; rw [h0, hLd]; exact gPick_max s0 N p hp
  · intro p hp
    rw [h0]
    have := gTop_max s0 N p hp
    omega
  · intro i hi
    have e : gqAt (goAll N Ld E L pa pc tx (2 * N)) (L.length + i) = qE N Ld pa pc := by
      refine gqAt_some ?_
      unfold goAll
      rw [List.append_assoc, List.append_assoc, List.getElem?_append_right (by omega), Nat.add_sub_cancel_left, List.getElem?_append_left (by simpa using hi)]
      simp [hi]
    unfold gopAt
    rw [e]
    exact ⟨rfl, rfl, rfl⟩
  · intro i hi
    have e : gqAt (goAll N Ld E L pa pc tx (2 * N)) (L.length + E + i) = qP Ld (tx i) := by
      refine gqAt_some ?_
      unfold goAll
      rw [List.append_assoc, List.getElem?_append_right (by simp)]
      have e2 : L.length + E + i - (L ++ List.replicate E (qE N Ld pa pc)).length = i := by simp
      rw [e2, List.getElem?_append_left (by simpa using hi)]
      match i, hi with
      | 0, _ => rfl
      | 1, _ => rfl
      | 2, _ => rfl
    unfold gopAt
    rw [e]
    exact ⟨rfl, rfl, rfl, htx i⟩
  · intro k hk hne
    have e : gqAt (goAll N Ld E L pa pc tx (2 * N)) (L.length + E + 3 + gCp N Ld k) = qC Ld (k % N) := by
      refine gqAt_some ?_
      unfold goAll
      rw [List.getElem?_append_right (by simp; omega)]
      have e2 : L.length + E + 3 + gCp N Ld k - (L ++ List.replicate E (qE N Ld pa pc) ++ [qP Ld (tx 0), qP Ld (tx 1), qP Ld (tx 2)]).length = gCp N Ld k := by simp; omega
      rw [e2]
      exact cps_at N Ld (2 * N) k hk hne
    unfold gopAt
    rw [e]
    exact ⟨rfl, rfl, rfl⟩
theorem OwnGq.belowQ {w w' : World} {B : Nat} {v : Value} {L : List Gq} (h : OwnGq w B v L) (hb : Below w.heap.size w w') : OwnGq w' B v L :=
  World.ownsRow.kept h (below_grown hb none) (by
    cases hv : v.ownBlock with
    | none => exact .inl rfl
    | some g => exact .inr (by simp))
theorem GqOk.belowQ {w w' : World} {B : Nat} {x : Gq} (h : GqOk w B x) (hb : Below w.heap.size w w') : GqOk w' B x := ⟨h.1, h.2.1, OwnNums.belowQ h.2.2 hb⟩
theorem gAll_succ (k : Nat) : gAll (k + 1) = gAll k ++ [(k : Int)] := by unfold gAll; rw [List.range_succ, List.map_append]; rfl
theorem gAll_len (k : Nat) : (gAll k).length = k := by unfold gAll; simp
theorem GqOk.none {w : World} {B : Nat} {x : Gq} (h1 : x.pe = []) (h2 : x.pa = none) (h3 : x.pc = 0) (h4 : x.tx.size ≤ 1001) : GqOk w B x := by
  obtain ⟨a, b, c, d, e, f, g⟩ := x
  dsimp only at h1 h2 h3 h4
  subst h1 h2 h3
  exact ⟨by simp, h4, rfl, .inl ⟨rfl, rfl⟩⟩
theorem gTop_le (s : Gst) (B : Int) (hB : 0 ≤ B) (h : ∀ p, (s p).tm ≤ B) : ∀ n, gTop s n ≤ B
  | 0 => hB
  | n + 1 => by
    unfold gTop
    split
    · exact h n
    · exact gTop_le s B hB h n
def txs (t : ByteArray) (i : Nat) : ByteArray := if i = 0 then ⟨#[120]⟩ else if i = 1 then ⟨#[121]⟩ else t
theorem txs_row {w : World} {X : Nat} {t : ByteArray} (h : RowAt w X 9 #[.string ⟨#[120]⟩, .string ⟨#[121]⟩, .string t]) {j : Nat} (hj : j < 3) : w.cell? ⟨X, j, none⟩ = some (.string (txs t j)) := by
  rcases (by omega : j = 0 ∨ j = 1 ∨ j = 2) with rfl | rfl | rfl
  · exact h.cell 0
  · exact h.cell 1
  · exact h.cell 2
theorem txs_size {t : ByteArray} (h : t.size ≤ 100) (i : Nat) : (txs t i).size ≤ 1000 := by
  unfold txs
  split
  · decide
  · split
    · decide
    · omega
def qPs (Ld : Nat) (t : ByteArray) (j : Nat) : List Gq := [qP Ld (txs t 0), qP Ld (txs t 1), qP Ld (txs t 2)].take j
theorem qPs_succ (Ld : Nat) (t : ByteArray) {j : Nat} (hj : j < 3) : qPs Ld t (j + 1) = qPs Ld t j ++ [qP Ld (txs t j)] := by
  rcases (by omega : j = 0 ∨ j = 1 ∨ j = 2) with rfl | rfl | rfl <;> rfl
theorem qPs_len (Ld : Nat) (t : ByteArray) (j : Nat) : (qPs Ld t j).length ≤ 3 := by unfold qPs; rw [List.length_take]; exact Nat.min_le_right _ _
theorem OwnGq.neR {w : World} {B : Nat} {v : Value} {L : List Gq} {X : Nat} {t : TypeId} {cs : Array Value} (h : OwnGq w B v L) (hr : RowAt w X t cs) (ht : t ≠ 42) : some X ≠ v.ownBlock := fun e => by
  rcases h.2 with ⟨h0, _⟩ | ⟨g, cap, cur, h0, _, hg, _⟩
  · rw [h0] at e; cases e
  · rw [h0] at e
    have eb : X = g := Option.some.inj e
    subst eb
    exact rowNeG hr (show RowAt w X 42 cur from hg) ht rfl
theorem OwnGq.keepR {w w' : World} {B : Nat} {v : Value} {L : List Gq} {X : Nat} {t : TypeId} {cs : Array Value} (h : OwnGq w B v L) (hr : RowAt w X t cs) (ht : t ≠ 42) (hg : w.grownBy w' v.ownBlock) : RowAt w' X t cs := (hg.block X hr.lt (h.neR hr ht)).trans hr
theorem goAll_step (N Ld E : Nat) (L : List Gq) (pa : Option Addr) (pc : Nat) (tx : Nat → ByteArray) (k : Nat) (h : k % N ≠ Ld) : goAll N Ld E L pa pc tx (k + 1) = goAll N Ld E L pa pc tx k ++ [qC Ld (k % N)] := by
  unfold goAll
  show _ ++ (cps N Ld k ++ _) = _
  rw [if_neg h, ← List.append_assoc]
theorem goAll_skip (N Ld E : Nat) (L : List Gq) (pa : Option Addr) (pc : Nat) (tx : Nat → ByteArray) (k : Nat) (h : k % N = Ld) : goAll N Ld E L pa pc tx (k + 1) = goAll N Ld E L pa pc tx k := by
  unfold goAll
  show _ ++ (cps N Ld k ++ _) = _
  rw [if_pos h, List.append_nil]
theorem goAll_le (N Ld E : Nat) (L : List Gq) (pa : Option Addr) (pc : Nat) (tx : Nat → ByteArray) (k : Nat) : (goAll N Ld E L pa pc tx k).length ≤ L.length + E + 3 + k := by
  unfold goAll
  have := cps_le N Ld k
  simp only [List.length_append, List.length_replicate, List.length_cons, List.length_nil, cps_len]
  omega
/-- operations that were drawn are appended -/
theorem append_gqs {ops : Array Oper} {rest : List Oper} {o : Oper} {a : Act} {Q : Exit → Act → World → Prop} (base B : Nat) (wr : World) (hgd : o.guard = none) (s x : Operand)
    (ho : o.op = .call { callee := .builtin .append, args := #[s, x], argTypes := #[23, 23] })
    (v : Value) (hs : a.eval s = v) (hown : OwnGq wr base v []) (hsz : base ≤ wr.heap.size)
    (av : Option Addr) (cv : Nat) (L : List Gq) (hx : a.eval x = .slice av L.length cv) (hL : OwnGq wr B (.slice av L.length cv) L) (hlen : L.length ≤ 1048576)
    (h : ∀ v' w', OwnGq w' base v' L → wr.grownBy w' v.ownBlock → wpList Try.prog ops Q rest (a.put o.dst v') w') :
    wpList Try.prog ops Q (o :: rest) a wr := by
  obtain ⟨i0, hi, hz0, hz1, hz2⟩ := info_parts Try.infoGopD
  rcases hL.2 with ⟨h0, h1⟩ | ⟨g, cap, cur, he, hb, hr, hnc, hm, hsz2, htk⟩
  · have hl : L = [] := List.eq_nil_of_length_eq_zero h1
    subst hl
    refine wpList_append_own_none hgd s x 23 ho base 42 i0 5 Try.underlying23 hi v 0 _ hs hown (by rw [hx]; exact h0) (h v wr hown ?_)
    exact ⟨rfl, rfl, rfl, Nat.le_refl _, fun _ _ _ => rfl⟩
  · injection he with e1 e2 e3
    subst e1 e3
    have R : RowAt wr g 42 cur := hr
    refine wpList_append_own _ hgd s x 23 ho base 42 i0 _ 5 64 Try.underlying23 hi hz0 hz1 hz2 rfl (by decide) v 0 _ hs hown ⟨g, 0, none⟩ L.length cv (gqL L) hx (gqL_len L) ?_ ?_ ?_ ?_ hsz ?_
    · intro j u hj
      have hl : j < L.length * 5 := by rw [← gqL_len]; exact (List.getElem?_eq_some_iff.1 hj).1
      have := congrArg (·[j]?) htk
      simp only [List.getElem?_take] at this
      rw [if_pos hl, Array.getElem?_toList, hj] at this
      have hadd : (⟨g, 0, none⟩ : Addr).add j = ⟨g, j, none⟩ := by unfold Addr.add; split <;> simp_all
      rw [hadd, R.cell]
      exact this
    · intro u hu
      obtain ⟨y, _, hy⟩ := List.mem_flatMap.1 hu
      simp [gqC] at hy
      rcases hy with rfl | rfl | rfl | rfl | rfl <;> rfl
    · unfold maxLen; omega
    · omega
    · intro v' w' h1 h2 h3
      refine h v' w' ?_ h2
      unfold OwnGq
      simpa [gqL] using h1
end Go.Proofs.Ytmhkelfmciepaaa
