import Derived.Test.YtekdphfifdfmbaaTbO
namespace Go.Proofs.Ytekdphfifdfmbaa
open Go.RowKit
set_option linter.unusedVariables false
/-! A table under way: how it lies there, and how it is kept. -/
theorem row_ne {W : World} {g b : Nat} {t t' : TypeId} {cs cs' : Array Value} (h : RowAt W g t cs) (h' : RowAt W b t' cs') (ht : t ≠ t') : g ≠ b := fun e => by
  subst e
  have := h.symm.trans h'
  injection this with this
  injection this with _ this
  exact ht this
theorem or_keep {w w' : World} {base k n : Nat} {t : TypeId} {v : Value} {cs : List Value} (h : w.ownsRow base t k v n cs) (hk : ∀ g cur, v.ownBlock = some g → RowAt w g t cur → RowAt w' g t cur) : w'.ownsRow base t k v n cs := by
  refine ⟨h.1, ?_⟩
  rcases h.2 with h0 | ⟨g, cap, cur, he, hb, hr, r⟩
  · exact .inl h0
  · exact .inr ⟨g, cap, cur, he, hb, hk g cur (by rw [he]; rfl) hr, r⟩
theorem or_row {w : World} {base k n : Nat} {t : TypeId} {v : Value} {cs : List Value} (h : w.ownsRow base t k v n cs) {g : Nat} (hg : v.ownBlock = some g) : base ≤ g ∧ g < w.heap.size ∧ ∃ cur, RowAt w g t cur := by
  rcases h.2 with ⟨rfl, _⟩ | ⟨g', cap, cur, rfl, hb, hr, r⟩
  · cases hg
  · have e : g' = g := Option.some.inj hg
    subst e
    exact ⟨hb, (show RowAt w g' t cur from hr).lt, cur, hr⟩
theorem or_slice {w : World} {base k n : Nat} {t : TypeId} {v : Value} {cs : List Value} (h : w.ownsRow base t k v n cs) : ∃ a c, v = .slice a n c := by
  rcases h.2 with ⟨h0, h1⟩ | ⟨g, cap, cur, he, _⟩
  · exact ⟨_, _, by rw [h0, h1]⟩
  · exact ⟨_, _, he⟩
/-- the cells of outs -/
def ouL (O : List (Ot × Value)) : List Value := O.flatMap fun p => [.int .i64 p.1.cd, .string p.1.tx, p.2]
theorem ouL_app (A B : List (Ot × Value)) : ouL (A ++ B) = ouL A ++ ouL B := by simp [ouL]
structure RtI (w W : World) (X b rb base : Nat) (t : Tt) (vF vR : Value) (Q : List (Value × List En)) (vO : Value) (O : List (Ot × Value)) : Prop where
  res : RowAt W X 99 #[.int .i64 0, .int .i64 0, .slice none 0 0, .slice none 0 0, .slice none 0 0]
  tb : RowAt W b 53 #[.int .i64 t.sq, .int .i64 t.fl, vF, vR]
  rr : RowAt W rb 99 #[.int .i64 0, .int .i64 0, .slice none 0 0, .slice none 0 0, vO]
  fr : OwnEn W base vF t.fr
  rs : W.ownsRow base 28 1 vR Q.length (Q.map Prod.fst)
  ru : ∀ p ∈ Q, OwnEn W base p.1 p.2
  ap : ∀ p ∈ Q, ∀ g, p.1.ownBlock = some g → vF.ownBlock ≠ some g
  eq : Q.map Prod.snd = t.rs
  ou : W.ownsRow base 129 3 vO O.length (ouL O)
  oe : ∀ p ∈ O, OwnEn W base p.2 p.1.en
  oa : ∀ p ∈ O, ∀ g, p.2.ownBlock = some g → vF.ownBlock ≠ some g
  bl : Below w.heap.size w W
  sz : base ≤ W.heap.size
  nx : w.heap.size ≤ X ∧ w.heap.size ≤ b ∧ w.heap.size ≤ rb ∧ w.heap.size ≤ base ∧ X ≠ rb
theorem RtI.keep {w W W' : World} {X b rb base : Nat} {t : Tt} {vF vR : Value} {Q : List (Value × List En)} {vO : Value} {O : List (Ot × Value)} (h : RtI w W X b rb base t vF vR Q vO O) (hk : ∀ g ty cs, RowAt W g ty cs → RowAt W' g ty cs) (hb : Below w.heap.size w W') (hs : base ≤ W'.heap.size) : RtI w W' X b rb base t vF vR Q vO O :=
  ⟨hk _ _ _ h.res, hk _ _ _ h.tb, hk _ _ _ h.rr, h.fr.keep fun g cs _ r => hk _ _ _ r, or_keep h.rs fun g cs _ r => hk _ _ _ r, fun p hp => (h.ru p hp).keep fun g cs _ r => hk _ _ _ r, h.ap, h.eq, or_keep h.ou fun g cs _ r => hk _ _ _ r, fun p hp => (h.oe p hp).keep fun g cs _ r => hk _ _ _ r, h.oa, hb, hs, h.nx⟩
theorem RtI.below {w W W' : World} {X b rb base : Nat} {t : Tt} {vF vR : Value} {Q : List (Value × List En)} {vO : Value} {O : List (Ot × Value)} (h : RtI w W X b rb base t vF vR Q vO O) (hb : Below W.heap.size W W') : RtI w W' X b rb base t vF vR Q vO O :=
  h.keep (fun g ty cs r => r.below hb r.lt) (h.bl.trans (hb.mono h.bl.size)) (Nat.le_trans h.sz hb.size)
/-- a number of the table is set -/
theorem RtI.num {w W : World} {X b rb base : Nat} {t : Tt} {vF vR : Value} {Q : List (Value × List En)} {vO : Value} {O : List (Ot × Value)} (h : RtI w W X b rb base t vF vR Q vO O) (t' : Tt) (hf : t'.fr = t.fr) (hr : t'.rs = t.rs) (i : Nat) (v : Value) (he : (#[.int .i64 t.sq, .int .i64 t.fl, vF, vR] : Array Value).setIfInBounds i v = #[.int .i64 t'.sq, .int .i64 t'.fl, vF, vR]) : RtI w (W.setCell ⟨b, i, none⟩ v) X b rb base t' vF vR Q vO O := by
  have ok : ∀ {g ty cs}, RowAt W g ty cs → ty ≠ 53 → RowAt (W.setCell ⟨b, i, none⟩ v) g ty cs := fun {g ty cs} r hn => r.other _ _ (row_ne r h.tb hn)
  refine ⟨ok h.res (by decide), ?_, ok h.rr (by decide), ?_, or_keep h.rs fun g cs _ r => ok r (by decide), fun p hp => (h.ru p hp).keep fun g cs _ r => ok r (by decide), h.ap, by rw [hr]; exact h.eq, or_keep h.ou fun g cs _ r => ok r (by decide), fun p hp => (h.oe p hp).keep fun g cs _ r => ok r (by decide), h.oa, h.bl.setCell (by show w.heap.size ≤ b; exact h.nx.2.1) _, Nat.le_trans h.sz grown_set.size, h.nx⟩
  · have := h.tb.set i v
    rw [he] at this
    exact this
  · rw [hf]; exact h.fr.keep fun g cs _ r => ok r (by decide)
/-- the fresh entries are others -/
theorem RtI.fresh {w W W1 W2 : World} {X b rb base : Nat} {t : Tt} {vF vR : Value} {Q : List (Value × List En)} {vO : Value} {O : List (Ot × Value)} (h : RtI w W X b rb base t vF vR Q vO O) (hg : W.grownBy W1 vF.ownBlock) (hb : Below W1.heap.size W1 W2) {v' : Value} {B : List En} (hO : OwnEn W2 W1.heap.size v' B) : RtI w (W2.setCell ⟨b, 2, none⟩ v') X b rb base ⟨t.sq, t.fl, B, t.rs⟩ v' vR Q vO O := by
  have k1 : ∀ {g ty cs}, RowAt W g ty cs → vF.ownBlock ≠ some g → RowAt W1 g ty cs := fun {g ty cs} r hn => (hg.block g r.lt (fun e => hn e.symm)).trans r
  have ne : ∀ {g ty cs}, RowAt W g ty cs → ty ≠ 34 → vF.ownBlock ≠ some g := fun {g ty cs} r hn e => by
    obtain ⟨_, _, cs', r'⟩ := h.fr.row e
    exact row_ne r r' hn rfl
  have k2 : ∀ {g ty cs}, RowAt W g ty cs → vF.ownBlock ≠ some g → RowAt W2 g ty cs := fun {g ty cs} r hn => (k1 r hn).below hb (k1 r hn).lt
  have tb2 := k2 h.tb (ne h.tb (by decide))
  have k3 : ∀ {g ty cs}, RowAt W g ty cs → vF.ownBlock ≠ some g → ty ≠ 53 → RowAt (W2.setCell ⟨b, 2, none⟩ v') g ty cs := fun {g ty cs} r hn ht => (k2 r hn).other _ _ (row_ne (k2 r hn) tb2 ht)
  have new : ∀ g, v'.ownBlock = some g → W1.heap.size ≤ g := fun g e => (hO.row e).1
  have b1 : Below w.heap.size w W1 := h.bl.grown hg h.bl.size (fun g e => by have := (h.fr.row e).1; have := h.nx.2.2.2.1; omega)
  have b2 : Below w.heap.size w W2 := b1.trans (hb.mono b1.size)
  refine ⟨k3 h.res (ne h.res (by decide)) (by decide), ?_, k3 h.rr (ne h.rr (by decide)) (by decide), ?_, or_keep h.rs fun g cs e r => k3 r (ne r (by decide)) (by decide), fun p hp => (h.ru p hp).keep fun g cs e r => k3 r (h.ap p hp g e) (by decide), ?_, h.eq, or_keep h.ou fun g cs e r => k3 r (ne r (by decide)) (by decide), fun p hp => (h.oe p hp).keep fun g cs e r => k3 r (h.oa p hp g e) (by decide), ?_, b2.setCell (by show w.heap.size ≤ b; exact h.nx.2.1) _, Nat.le_trans h.sz (Nat.le_trans hg.size (Nat.le_trans hb.size grown_set.size)), h.nx⟩
  · exact tb2.set 2 v'
  · refine OwnEn.baseUp (hO.keep fun g cs e r => r.other _ _ (row_ne r tb2 (by decide))) (Nat.le_trans h.sz hg.size)
  · intro p hp g e e2
    have a1 := ((h.ru p hp).row e).2.1
    have a2 := new g e2
    have := hg.size
    omega
  · intro p hp g e e2
    have a1 := ((h.oe p hp).row e).2.1
    have a2 := new g e2
    have := hg.size
    omega
/-- a run more -/
theorem RtI.run {w W W1 : World} {X b rb base : Nat} {t : Tt} {vF vR : Value} {Q : List (Value × List En)} {vO : Value} {O : List (Ot × Value)} (h : RtI w W X b rb base t vF vR Q vO O) (hg : W.grownBy W1 vR.ownBlock) {v' : Value} {p : Value × List En} (hp : OwnEn W base p.1 p.2) (hr : W1.ownsRow base 28 1 v' (Q ++ [p]).length ((Q ++ [p]).map Prod.fst)) {vF' : Value} {F' : List En} (hF : OwnEn W base vF' F') (hx : ∀ q ∈ Q ++ [p], ∀ g, q.1.ownBlock = some g → vF'.ownBlock ≠ some g) (hy : ∀ q ∈ O, ∀ g, q.2.ownBlock = some g → vF'.ownBlock ≠ some g) {W3 : World} (h3 : ∀ g ty cs, RowAt (W1.setCell ⟨b, 3, none⟩ v') g ty cs → ty ≠ 53 → RowAt W3 g ty cs) (h4 : RowAt W3 b 53 #[.int .i64 t.sq, .int .i64 t.fl, vF', v']) (h5 : Below w.heap.size w W3) (h6 : base ≤ W3.heap.size) : RtI w W3 X b rb base ⟨t.sq, t.fl, F', t.rs ++ [p.2]⟩ vF' v' (Q ++ [p]) vO O := by
  have ne : ∀ {g ty cs}, RowAt W g ty cs → ty ≠ 28 → vR.ownBlock ≠ some g := fun {g ty cs} r hn e => by
    obtain ⟨_, _, cs', r'⟩ := or_row h.rs e
    exact row_ne r r' hn rfl
  have k1 : ∀ {g ty cs}, RowAt W g ty cs → ty ≠ 28 → RowAt W1 g ty cs := fun {g ty cs} r hn => (hg.block g r.lt (fun e => ne r hn e.symm)).trans r
  have tb1 := k1 h.tb (by decide)
  have k2 : ∀ {g ty cs}, RowAt W1 g ty cs → ty ≠ 53 → RowAt W3 g ty cs := fun {g ty cs} r hn => h3 g ty cs (r.other _ _ (row_ne r tb1 hn)) hn
  refine ⟨k2 (k1 h.res (by decide)) (by decide), h4, k2 (k1 h.rr (by decide)) (by decide), hF.keep fun g cs _ r => k2 (k1 r (by decide)) (by decide), or_keep hr fun g cs _ r => k2 r (by decide), fun q hq => ?_, hx, ?_, or_keep h.ou fun g cs _ r => k2 (k1 r (by decide)) (by decide), fun q hq => (h.oe q hq).keep fun g cs _ r => k2 (k1 r (by decide)) (by decide), hy, h5, h6, h.nx⟩
  · rcases List.mem_append.1 hq with hq | hq
    · exact (h.ru q hq).keep fun g cs _ r => k2 (k1 r (by decide)) (by decide)
    · rw [List.mem_singleton] at hq
      subst hq
      exact hp.keep fun g cs _ r => k2 (k1 r (by decide)) (by decide)
  · rw [List.map_append, h.eq]; rfl
/-- the runs are gone -/
theorem RtI.empt {w W : World} {X b rb base : Nat} {t : Tt} {vF vR : Value} {Q : List (Value × List En)} {vO : Value} {O : List (Ot × Value)} (h : RtI w W X b rb base t vF vR Q vO O) : RtI w ((W.alloc (.cells #[] 28)).setCell ⟨b, 3, none⟩ (.slice (some ⟨W.heap.size, 0, none⟩) 0 0)) X b rb base ⟨t.sq, t.fl, t.fr, []⟩ vF (.slice (some ⟨W.heap.size, 0, none⟩) 0 0) [] vO O := by
  have h1 := h.below ((Below.refl W.heap.size W).alloc (Nat.le_refl _) (.cells #[] 28))
  have ok : ∀ {g ty cs}, RowAt (W.alloc (.cells #[] 28)) g ty cs → ty ≠ 53 → RowAt ((W.alloc (.cells #[] 28)).setCell ⟨b, 3, none⟩ (.slice (some ⟨W.heap.size, 0, none⟩) 0 0)) g ty cs := fun {g ty cs} r hn => r.other _ _ (row_ne r h1.tb hn)
  refine ⟨ok h1.res (by decide), h1.tb.set 3 _, ok h1.rr (by decide), h1.fr.keep fun g cs _ r => ok r (by decide), ?_, (fun p hp => by cases hp), (fun p hp => by cases hp), rfl, or_keep h1.ou fun g cs _ r => ok r (by decide), fun p hp => (h1.oe p hp).keep fun g cs _ r => ok r (by decide), h.oa, h1.bl.setCell (by show w.heap.size ≤ b; exact h.nx.2.1) _, Nat.le_trans h1.sz grown_set.size, h.nx⟩
  exact or_keep (World.ownsRow_made W #[] 0 h.sz (by decide) rfl) fun g cs _ r => ok r (by decide)
/-- an answer more -/
theorem RtI.out {w W W1 : World} {X b rb base : Nat} {t : Tt} {vF vR : Value} {Q : List (Value × List En)} {vO : Value} {O : List (Ot × Value)} (h : RtI w W X b rb base t vF vR Q vO O) (hg : W.grownBy W1 vO.ownBlock) {v' : Value} {p : Ot × Value} (hp : OwnEn W base p.2 p.1.en) (hx : ∀ g, p.2.ownBlock = some g → vF.ownBlock ≠ some g) (hr : W1.ownsRow base 129 3 v' (O ++ [p]).length (ouL (O ++ [p]))) : RtI w (W1.setCell ⟨rb, 4, none⟩ v') X b rb base t vF vR Q v' (O ++ [p]) := by
  have ne : ∀ {g ty cs}, RowAt W g ty cs → ty ≠ 129 → vO.ownBlock ≠ some g := fun {g ty cs} r hn e => by
    obtain ⟨_, _, cs', r'⟩ := or_row h.ou e
    exact row_ne r r' hn rfl
  have k1 : ∀ {g ty cs}, RowAt W g ty cs → ty ≠ 129 → RowAt W1 g ty cs := fun {g ty cs} r hn => (hg.block g r.lt (fun e => ne r hn e.symm)).trans r
  have rr1 := k1 h.rr (by decide)
  have k2 : ∀ {g ty cs}, RowAt W1 g ty cs → g ≠ rb → RowAt (W1.setCell ⟨rb, 4, none⟩ v') g ty cs := fun {g ty cs} r hn => r.other _ _ hn
  have k3 : ∀ {g ty cs}, RowAt W g ty cs → ty ≠ 129 → ty ≠ 99 → RowAt (W1.setCell ⟨rb, 4, none⟩ v') g ty cs := fun {g ty cs} r h1 h2 => k2 (k1 r h1) (row_ne (k1 r h1) rr1 h2)
  have b1 : Below w.heap.size w W1 := h.bl.grown hg h.bl.size (fun g e => by have := (or_row h.ou e).1; have := h.nx.2.2.2.1; omega)
  refine ⟨k2 (k1 h.res (by decide)) h.nx.2.2.2.2, k3 h.tb (by decide) (by decide), rr1.set 4 v', h.fr.keep fun g cs _ r => k3 r (by decide) (by decide), or_keep h.rs fun g cs _ r => k3 r (by decide) (by decide), fun q hq => (h.ru q hq).keep fun g cs _ r => k3 r (by decide) (by decide), h.ap, h.eq, or_keep hr fun g cs _ r => k2 r (row_ne r rr1 (by decide)), fun q hq => ?_, fun q hq => ?_, b1.setCell (by show w.heap.size ≤ rb; exact h.nx.2.2.1) _, Nat.le_trans h.sz (Nat.le_trans hg.size grown_set.size), h.nx⟩
  · rcases List.mem_append.1 hq with hq | hq
    · exact (h.oe q hq).keep fun g cs _ r => k3 r (by decide) (by decide)
    · rw [List.mem_singleton] at hq
      subst hq
      exact hp.keep fun g cs _ r => k3 r (by decide) (by decide)
  · rcases List.mem_append.1 hq with hq | hq
    · exact h.oa q hq
    · rw [List.mem_singleton] at hq
      subst hq
      exact hx
/-- a run of a value and its entries -/
def rnOf (p : Value × List En) : Rn := match p.1 with
  | .slice a n c => ⟨a, n, c, enA p.2⟩
  | _ => ⟨none, 0, 0, enA p.2⟩
theorem range_enA (L : List En) : (List.range L.length).map (enA L) = L := by
  apply List.ext_getElem?
  intro i
  by_cases hi : i < L.length
  · rw [List.getElem?_map, List.getElem?_range hi, enA_get hi]; rfl
  · rw [List.getElem?_eq_none (by simp; omega), List.getElem?_eq_none (by omega)]
theorem OwnEn.rnOf {w : World} {base : Nat} {p : Value × List En} (h : OwnEn w base p.1 p.2) : p.1 = .slice (rnOf p).ad (rnOf p).n (rnOf p).cap ∧ (rnOf p).n = p.2.length ∧ (rnOf p).o = enA p.2 ∧ Ens w (rnOf p).ad (rnOf p).n (rnOf p).cap (rnOf p).o ∧ ((rnOf p).ad = none → (rnOf p).cap = 0) := by
  obtain ⟨v, L⟩ := p
  obtain ⟨a, c, hv⟩ := h.slice
  have hv' : v = .slice a L.length c := hv
  subst hv'
  refine ⟨rfl, rfl, rfl, h.ens.2, fun e => ?_⟩
  have e' : a = none := e
  subst e'
  rcases h.2 with ⟨h0, h1⟩ | ⟨g, cap, cur, he, _⟩
  · have h0' : Value.slice none L.length c = .slice none 0 0 := h0
    injection h0' with _ _ h3
  · cases he
/-- runs that a call owns, read -/
theorem rs_rns {w : World} {base : Nat} {v : Value} {Q : List (Value × List En)} (h : w.ownsRow base 28 1 v Q.length (Q.map Prod.fst)) (hu : ∀ p ∈ Q, OwnEn w base p.1 p.2) : ∃ a cap, v = .slice a Q.length cap ∧ Rns w a Q.length cap (fun k => rnOf (Q.getD k (.slice none 0 0, []))) ∧ (∀ k, k < Q.length → (rnOf (Q.getD k (.slice none 0 0, []))).ad = none → (rnOf (Q.getD k (.slice none 0 0, []))).cap = 0) ∧ (a = none → cap = 0) := by
  have get : ∀ k, k < Q.length → ∃ p ∈ Q, Q.getD k (.slice none 0 0, []) = p ∧ Q[k]? = some p := fun k hk => ⟨Q[k], List.getElem_mem hk, by rw [List.getD_eq_getElem?_getD, List.getElem?_eq_getElem hk]; rfl, List.getElem?_eq_getElem hk⟩
  have hE : ∀ k, k < Q.length → Ens w (rnOf (Q.getD k (.slice none 0 0, []))).ad (rnOf (Q.getD k (.slice none 0 0, []))).n (rnOf (Q.getD k (.slice none 0 0, []))).cap (rnOf (Q.getD k (.slice none 0 0, []))).o := fun k hk => by
    obtain ⟨p, hp, e, _⟩ := get k hk
    rw [e]; exact (hu p hp).rnOf.2.2.2.1
  have hN : ∀ k, k < Q.length → (rnOf (Q.getD k (.slice none 0 0, []))).ad = none → (rnOf (Q.getD k (.slice none 0 0, []))).cap = 0 := fun k hk => by
    obtain ⟨p, hp, e, _⟩ := get k hk
    rw [e]; exact (hu p hp).rnOf.2.2.2.2
  rcases h.2 with ⟨h1, h2⟩ | ⟨g, cap, cur, he, hb, hr, hnc, hm, hsz2, htk⟩
  · exact ⟨none, 0, by rw [h1, h2], ⟨by omega, .inl h2, hE⟩, hN, fun _ => rfl⟩
  · subst he
    refine ⟨some ⟨g, 0, none⟩, cap, rfl, ⟨hnc, .inr ⟨g, 0, rfl, (show RowAt w g _ cur from hr).lt, fun k hk => ?_⟩, hE⟩, hN, fun e => by cases e⟩
    obtain ⟨p, hp, e, e2⟩ := get k hk
    have e1 : (Q.map Prod.fst)[k]? = some p.1 := by rw [List.getElem?_map, e2]; rfl
    have := World.ownsRow.cells h rfl k p.1 e1
    have hadd : (⟨g, 0, none⟩ : Addr).add k = ⟨g, k, none⟩ := by unfold Addr.add; split <;> simp_all
    rw [hadd] at this
    rw [Nat.zero_add, this]
    show some p.1 = some (.slice (rnOf (Q.getD k (.slice none 0 0, []))).ad (rnOf (Q.getD k (.slice none 0 0, []))).n (rnOf (Q.getD k (.slice none 0 0, []))).cap)
    rw [e]
    exact congrArg some (hu p hp).rnOf.1
theorem allE_Q (Q : List (Value × List En)) (hu : ∀ p ∈ Q, (rnOf p).n = p.2.length ∧ (rnOf p).o = enA p.2) : ∀ m, m ≤ Q.length → allE (fun k => rnOf (Q.getD k (.slice none 0 0, []))) m = ((Q.take m).map Prod.snd).flatten
  | 0, _ => rfl
  | m + 1, h => by
    have ih := allE_Q Q hu m (by omega)
    have e : Q.take (m + 1) = Q.take m ++ [Q[m]'(by omega)] := by rw [List.take_add_one, List.getElem?_eq_getElem (by omega)]; rfl
    have g : Q.getD m (.slice none 0 0, []) = Q[m]'(by omega) := by rw [List.getD_eq_getElem?_getD, List.getElem?_eq_getElem (by omega)]; rfl
    obtain ⟨h1, h2⟩ := hu (Q[m]'(by omega)) (List.getElem_mem _)
    show allE _ m ++ (List.range (rnOf (Q.getD m (.slice none 0 0, []))).n).map (rnOf (Q.getD m (.slice none 0 0, []))).o = _
    rw [ih, e, g, h1, h2, range_enA, List.map_append, List.flatten_append]
    simp
/-- the table, read -/
theorem RtI.rd {w W : World} {X b rb base : Nat} {t : Tt} {vF vR : Value} {Q : List (Value × List En)} {vO : Value} {O : List (Ot × Value)} (h : RtI w W X b rb base t vF vR Q vO O) : ∃ a0 c0 a cap R, vF = .slice a0 t.fr.length c0 ∧ vR = .slice a t.rs.length cap ∧ Ens W a0 t.fr.length c0 (enA t.fr) ∧ Rns W a t.rs.length cap R ∧ (a0 = none → c0 = 0) ∧ (∀ k, k < t.rs.length → (R k).ad = none → (R k).cap = 0) ∧ allTb t.fr.length (enA t.fr) R t.rs.length = t.all ∧ allE R t.rs.length = t.rs.flatten ∧ cntR R t.rs.length = t.rs.flatten.length := by
  obtain ⟨a0, c0, hv⟩ := h.fr.slice
  obtain ⟨a, cap, hr, hN, hz, _⟩ := rs_rns h.rs h.ru
  have hl : t.rs.length = Q.length := by rw [← h.eq, List.length_map]
  have e := allE_Q Q (fun p hp => ⟨(h.ru p hp).rnOf.2.1, (h.ru p hp).rnOf.2.2.1⟩) Q.length (Nat.le_refl _)
  rw [List.take_length, h.eq] at e
  refine ⟨a0, c0, a, cap, _, hv, by rw [hl]; exact hr, ?_, by rw [hl]; exact hN, ?_, by rw [hl]; exact hz, ?_, by rw [hl]; exact e, ?_⟩
  · have := h.fr
    rw [hv] at this
    exact this.ens.2
  · intro q
    subst q
    rcases h.fr.2 with ⟨h0, h1⟩ | ⟨g, cap', cur, he, _⟩
    · rw [hv] at h0; injection h0 with _ _ h3
    · rw [hv] at he; cases he
  · unfold allTb Tt.all
    rw [range_enA, hl, e]
  · rw [hl, ← allE_len, e]
end Go.Proofs.Ytekdphfifdfmbaa
