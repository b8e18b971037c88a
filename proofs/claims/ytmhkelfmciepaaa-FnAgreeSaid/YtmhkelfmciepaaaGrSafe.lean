import Derived.Test.YtmhkelfmciepaaaGrS9
namespace Go.Proofs.Ytmhkelfmciepaaa
open Go.RowKit
set_option linter.unusedVariables false
/-! What is committed stays: the group's safety. -/
def MajN (N : Nat) (f : Nat → Bool) : Prop := N < 2 * (List.range N).countP f
theorem countP_two {α : Type} (f g : α → Bool) : ∀ l : List α, l.countP f + l.countP g ≤ l.length + l.countP (fun x => f x && g x)
  | [] => Nat.le_refl _
  | a :: l => by
    have := countP_two f g l
    cases hf : f a <;> cases hg : g a <;> simp [hf, hg] <;> omega
theorem MajN.meet {N : Nat} {f g : Nat → Bool} (hf : MajN N f) (hg : MajN N g) : ∃ p, p < N ∧ f p = true ∧ g p = true := by
  have h := countP_two f g (List.range N)
  rw [List.length_range] at h
  unfold MajN at hf hg
  have h2 : 0 < (List.range N).countP (fun x => f x && g x) := by omega
  obtain ⟨p, hp, hq⟩ := List.countP_pos_iff.1 h2
  simp at hp hq
  exact ⟨p, hp, hq.1, hq.2⟩
/-- what went on: who was elected in a term, by whom; the log of a term; what was matched in it -/
structure Gh where
  el : Int → Option Nat
  qs : Int → Nat → Bool
  ll : Int → List Ge
  ak : Int → Nat → Nat
def tmAt (L : List Ge) (i : Nat) : Int := (L.getD i ge0).tm
def HasT (g : Gh) (L : List Ge) (T : Int) (n : Nat) : Prop := L.take n = (g.ll T).take n
def OwnT (g : Gh) (T : Int) (n : Nat) : Prop := tmAt (g.ll T) (n - 1) = T
def HereT (g : Gh) (L : List Ge) (i : Nat) (X : Int) : Prop := g.el (tmAt L i) ≠ none ∧ tmAt L i ≤ X ∧ i < (g.ll (tmAt L i)).length ∧ L.take (i + 1) = (g.ll (tmAt L i)).take (i + 1)
/-- a list that is committed -/
def CertT (N : Nat) (g : Gh) (L : List Ge) (X : Int) : Prop := L = [] ∨ ∃ T n, T ≤ X ∧ g.el T ≠ none ∧ 0 < n ∧ n ≤ (g.ll T).length ∧ OwnT g T n ∧ MajN N (fun p => decide (n ≤ g.ak T p)) ∧ L.length ≤ n ∧ L = (g.ll T).take L.length
structure SafeG (N : Nat) (s : Gst) (g : Gh) : Prop where
  tm0 : ∀ p, p < N → 0 ≤ (s p).tm
  pos : ∀ T, g.el T ≠ none → 0 < T
  maj : ∀ T, g.el T ≠ none → MajN N (g.qs T)
  mine : ∀ T k, g.el T = some k → k < N ∧ g.qs T k = true
  voted : ∀ T k p, g.el T = some k → p < N → g.qs T p = true → T < (s p).tm ∨ ((s p).tm = T ∧ (s p).vt = k)
  lead : ∀ k, k < N → (s k).ld = true → g.el (s k).tm = some k ∧ g.ll (s k).tm = (s k).lg ∧ ∀ j, j < N → (s k).mt.getD j 0 ≤ (g.ak (s k).tm j : Int)
  mtl : ∀ k, k < N → (s k).mt.length = N
  idle : ∀ T, g.el T = none → g.ll T = [] ∧ ∀ p, g.ak T p = 0
  logs : ∀ p i, p < N → i < (s p).lg.length → HereT g (s p).lg i (s p).tm
  lls : ∀ T i, i < (g.ll T).length → HereT g (g.ll T) i T
  akle : ∀ T p, g.ak T p ≤ (g.ll T).length
  aktm : ∀ T p, p < N → 0 < g.ak T p → T ≤ (s p).tm
  acks : ∀ T p n, p < N → 0 < n → n ≤ g.ak T p → OwnT g T n → HasT g (s p).lg T n ∨ ∃ T', T < T' ∧ T' ≤ (s p).tm ∧ g.el T' ≠ none ∧ ¬ HasT g (g.ll T') T n
  vots : ∀ T T' p n, p < N → g.el T' ≠ none → g.qs T' p = true → T < T' → 0 < n → n ≤ g.ak T p → OwnT g T n → HasT g (g.ll T') T n ∨ ∃ T'', T < T'' ∧ T'' < T' ∧ g.el T'' ≠ none ∧ ¬ HasT g (g.ll T'') T n
  cms : ∀ p, p < N → (s p).cm ≤ (s p).lg.length ∧ CertT N g ((s p).lg.take (s p).cm) (s p).tm
theorem gtake_len {L M : List Ge} {n : Nat} (h : L.take n = M.take n) (hM : n ≤ M.length) : n ≤ L.length := by
  have := congrArg List.length h
  simp at this
  omega
theorem gtake_le {L M : List Ge} {m n : Nat} (h : L.take n = M.take n) (hm : m ≤ n) : L.take m = M.take m := by
  have := congrArg (List.take m) h
  rw [List.take_take, List.take_take, Nat.min_eq_left hm] at this
  exact this
theorem tmAt_take {L M : List Ge} {i n : Nat} (h : L.take n = M.take n) (hi : i < n) : tmAt L i = tmAt M i := by
  have := congrArg (fun x => (x[i]?).getD ge0) h
  simp only [List.getElem?_take, if_pos hi] at this
  unfold tmAt
  rw [List.getD_eq_getElem?_getD, List.getD_eq_getElem?_getD, this]
section
variable {N : Nat} {s : Gst} {g : Gh}
/-- what a majority has matched in a term, every later term's log has -/
theorem SafeG.kept (h : SafeG N s g) {T : Int} {n : Nat} (h0 : 0 < n) (ho : OwnT g T n) (hm : MajN N (fun p => decide (n ≤ g.ak T p))) : ∀ (d : Nat) (T' : Int), T' - T ≤ d → T < T' → g.el T' ≠ none → HasT g (g.ll T') T n
  | 0, T', hd, hlt, _ => by omega
  | d + 1, T', hd, hlt, he => by
    obtain ⟨p, hp, h1, h2⟩ := MajN.meet hm (h.maj T' he)
    have h1' : n ≤ g.ak T p := by simpa using h1
    rcases h.vots T T' p n hp he h2 hlt h0 h1' ho with q | ⟨T'', q1, q2, q3, q4⟩
    · exact q
    · exact absurd (SafeG.kept h h0 ho hm d T'' (by omega) q1 q3) q4
theorem SafeG.keptAll (h : SafeG N s g) {T T' : Int} {n : Nat} (h0 : 0 < n) (ho : OwnT g T n) (hm : MajN N (fun p => decide (n ≤ g.ak T p))) (hle : T ≤ T') (he : g.el T' ≠ none) : HasT g (g.ll T') T n := by
  by_cases e : T = T'
  · rw [← e]; exact rfl
  · exact h.kept h0 ho hm (T' - T).toNat T' (by omega) (by omega) he
/-- two lists that are committed agree as far as both go -/
theorem CertT.agree (h : SafeG N s g) {L M : List Ge} {X Y : Int} (hL : CertT N g L X) (hM : CertT N g M Y) (i : Nat) (hi : i ≤ L.length) (hj : i ≤ M.length) : L.take i = M.take i := by
  rcases hL with rfl | ⟨T, n, h1, h2, h3, h4, h5, h6, h7, h8⟩
  · simp at hi; subst hi; simp
  rcases hM with rfl | ⟨T', n', k1, k2, k3, k4, k5, k6, k7, k8⟩
  · simp at hj; subst hj; simp
  have e1 : L.take i = (g.ll T).take i := by
    have := congrArg (List.take i) h8
    rw [List.take_take, Nat.min_eq_left hi] at this
    exact this
  have e2 : M.take i = (g.ll T').take i := by
    have := congrArg (List.take i) k8
    rw [List.take_take, Nat.min_eq_left hj] at this
    exact this
  rw [e1, e2]
  rcases Int.le_total T T' with hle | hle
  · exact (gtake_le (h.keptAll h3 h5 h6 hle k2) (by omega)).symm
  · exact gtake_le (h.keptAll k3 k5 k6 hle h2) (by omega)
/-- terms rise in a log -/
theorem SafeG.rise (h : SafeG N s g) {p : Nat} (hp : p < N) {i j : Nat} (hij : i ≤ j) (hj : j < (s p).lg.length) : tmAt (s p).lg i ≤ tmAt (s p).lg j := by
  obtain ⟨q1, q2, q3, q4⟩ := h.logs p j hp hj
  have e := tmAt_take q4 (show i < j + 1 by omega)
  rw [e]
  exact (h.lls _ i (by omega)).2.1
end
/-- what grows -/
structure ExtT (g g' : Gh) : Prop where
  el : ∀ T, g.el T ≠ none → g'.el T = g.el T
  ll : ∀ T, g.el T ≠ none → (g'.ll T).take (g.ll T).length = g.ll T ∧ (g.ll T).length ≤ (g'.ll T).length
  ak : ∀ T p, g.el T ≠ none → g.ak T p ≤ g'.ak T p
theorem ExtT.refl (g : Gh) : ExtT g g := ⟨fun _ _ => rfl, fun _ _ => ⟨List.take_length, Nat.le_refl _⟩, fun _ _ _ => Nat.le_refl _⟩
theorem ExtT.take {g g' : Gh} (h : ExtT g g') {T : Int} (he : g.el T ≠ none) {n : Nat} (hn : n ≤ (g.ll T).length) : (g'.ll T).take n = (g.ll T).take n := by
  have q := (h.ll T he).1
  have := congrArg (List.take n) q
  rw [List.take_take, Nat.min_eq_left hn] at this
  exact this
theorem ExtT.trans {a b c : Gh} (h : ExtT a b) (k : ExtT b c) : ExtT a c := by
  have hb : ∀ T, a.el T ≠ none → b.el T ≠ none := fun T q => by rw [h.el T q]; exact q
  refine ⟨fun T q => (k.el T (hb T q)).trans (h.el T q), fun T q => ⟨?_, Nat.le_trans (h.ll T q).2 (k.ll T (hb T q)).2⟩, fun T p q => Nat.le_trans (h.ak T p q) (k.ak T p (hb T q))⟩
  rw [k.take (hb T q) (h.ll T q).2]
  exact (h.ll T q).1
theorem ExtT.own {g g' : Gh} (h : ExtT g g') {T : Int} (he : g.el T ≠ none) {n : Nat} (h0 : 0 < n) (hn : n ≤ (g.ll T).length) : OwnT g' T n ↔ OwnT g T n := by
  unfold OwnT
  rw [tmAt_take (h.take he hn) (show n - 1 < n by omega)]
theorem CertT.ext {N : Nat} {g g' : Gh} {L : List Ge} {X Y : Int} (h : CertT N g L X) (e : ExtT g g') (hXY : X ≤ Y) : CertT N g' L Y := by
  rcases h with h0 | ⟨T, n, h1, h2, h3, h4, h5, h6, h7, h8⟩
  · exact .inl h0
  · refine .inr ⟨T, n, by omega, by rw [e.el T h2]; exact h2, h3, Nat.le_trans h4 (e.ll T h2).2, (e.own h2 h3 h4).2 h5, ?_, h7, ?_⟩
    · unfold MajN at h6 ⊢
      refine Nat.lt_of_lt_of_le h6 (Nat.mul_le_mul_left 2 (List.countP_mono_left fun x _ hx => ?_))
      simp at hx ⊢
      exact Nat.le_trans hx (e.ak T x h2)
    · rw [e.take h2 (by omega)]
      exact h8
/-- a step that leaves the logs as they are -/
structure QtG (m m' : Mb) : Prop where
  lg : m'.lg = m.lg
  tm : m.tm ≤ m'.tm
  vt : m'.tm = m.tm → m'.vt = m.vt ∨ m.vt = -1
  ld : m'.ld = true → m.ld = true ∧ m'.tm = m.tm ∧ m'.mt = m.mt
  ml : m'.mt.length = m.mt.length
  cm : m'.cm = m.cm ∨ m'.cm = 0
theorem QtG.refl (m : Mb) : QtG m m := ⟨rfl, Int.le_refl _, fun _ => .inl rfl, fun h => ⟨h, rfl, rfl⟩, rfl, .inl rfl⟩
section
variable {N : Nat} {s s' : Gst} {g : Gh}
theorem SafeG.quiet (h : SafeG N s g) (hq : ∀ p, p < N → QtG (s p) (s' p)) : SafeG N s' g := by
  refine ⟨fun p hp => Int.le_trans (h.tm0 p hp) (hq p hp).tm, h.pos, h.maj, h.mine, fun T k p he hp hv => ?_, fun k hk hl => ?_, fun k hk => ?_, h.idle, fun p i hp hi => ?_, h.lls, h.akle, fun T p hp ha => Int.le_trans (h.aktm T p hp ha) (hq p hp).tm, fun T p n hp h0 hn ho => ?_, h.vots, fun p hp => ?_⟩
  · have q := hq p hp
    have := q.tm
    rcases h.voted T k p he hp hv with z | ⟨z1, z2⟩
    · exact .inl (by omega)
    · by_cases e : (s' p).tm = (s p).tm
      · right
        refine ⟨by omega, ?_⟩
        rcases q.vt e with y | y
        · rw [y]; exact z2
        · rw [z2] at y; omega
      · exact .inl (by omega)
  · have q := hq k hk
    obtain ⟨z1, z2, z3⟩ := q.ld hl
    rw [z2, q.lg, z3]
    exact h.lead k hk z1
  · rw [(hq k hk).ml]; exact h.mtl k hk
  · have q := hq p hp
    rw [q.lg] at hi ⊢
    obtain ⟨z1, z2, z3, z4⟩ := h.logs p i hp hi
    exact ⟨z1, Int.le_trans z2 q.tm, z3, z4⟩
  · have q := hq p hp
    rw [q.lg]
    rcases h.acks T p n hp h0 hn ho with z | ⟨T', z1, z2, z3, z4⟩
    · exact .inl z
    · exact .inr ⟨T', z1, Int.le_trans z2 q.tm, z3, z4⟩
  · have q := hq p hp
    obtain ⟨z1, z2⟩ := h.cms p hp
    rw [q.lg]
    rcases q.cm with e | e
    · rw [e]; exact ⟨z1, z2.ext (ExtT.refl g) q.tm⟩
    · rw [e]; exact ⟨Nat.zero_le _, .inl (by simp)⟩
end
/-- a log that hangs on no term that is not elected keeps its ties when another term's log is made -/
theorem HereT.ext {g g' : Gh} {L : List Ge} {i : Nat} {X : Int} (h : HereT g L i X) (e : ExtT g g') : HereT g' L i X := by
  obtain ⟨h1, h2, h3, h4⟩ := h
  exact ⟨by rw [e.el _ h1]; exact h1, h2, Nat.lt_of_lt_of_le h3 (e.ll _ h1).2, by rw [e.take h1 (by omega)]; exact h4⟩
/-- a log that has not a term's entries does not get them by entries of its own term -/
theorem HasT.ext {g g' : Gh} (e : ExtT g g') {T : Int} (he : g.el T ≠ none) {n : Nat} (hn : n ≤ (g.ll T).length) (L : List Ge) : HasT g' L T n ↔ HasT g L T n := by
  unfold HasT
  rw [e.take he hn]
/-- a member that has won -/
def gWon (g : Gh) (T : Int) (k : Nat) (q : Nat → Bool) (L : List Ge) : Gh :=
  { el := fun X => if X = T then some k else g.el X, qs := fun X => if X = T then q else g.qs X, ll := fun X => if X = T then L else g.ll X, ak := fun X p => if X = T then (if p = k then L.length else 0) else g.ak X p }
theorem gWon_ext {g : Gh} {T : Int} (hT : g.el T = none) (k : Nat) (q : Nat → Bool) (L : List Ge) : ExtT g (gWon g T k q L) := by
  have hne : ∀ X, g.el X ≠ none → X ≠ T := fun X h e => h (by rw [e]; exact hT)
  refine ⟨fun X h => ?_, fun X h => ?_, fun X p h => ?_⟩
  · simp [gWon, hne X h]
  · simp [gWon, hne X h]
  · simp [gWon, hne X h]
theorem gLast_tm {L : List Ge} (h : L ≠ []) : gLast L = tmAt L (L.length - 1) := by
  unfold gLast tmAt
  have hl : L.length - 1 < L.length := by cases L with | nil => exact absurd rfl h | cons a l => simp
  rw [List.getLastD_eq_getLast?, List.getLast?_eq_getElem?, List.getD_eq_getElem?_getD]
section
variable {N : Nat} {s : Gst} {g : Gh}
theorem SafeG.won (h : SafeG N s g) {k : Nat} (hk : k < N) {T : Int} (hT0 : 0 < T) (htk : (s k).tm = T) (hn : g.el T = none) (hlt : ∀ i, i < (s k).lg.length → tmAt (s k).lg i < T) (q : Nat → Bool) (hq : MajN N q) (hqk : q k = true)
    (hv : ∀ p, p < N → q p = true → (s p).tm = T ∧ (s p).vt = k ∧ gNewer (s p).lg (s k).lg = false) :
    SafeG N (putM s k (gLead N k (s k))) (gWon g T k q (s k).lg) := by
  have ex := gWon_ext hn k q (s k).lg
  have hne : ∀ X, g.el X ≠ none → X ≠ T := fun X h e => h (by rw [e]; exact hn)
  have elN : ∀ X, X ≠ T → (gWon g T k q (s k).lg).el X = g.el X := fun X e => by simp [gWon, e]
  have llN : ∀ X, X ≠ T → (gWon g T k q (s k).lg).ll X = g.ll X := fun X e => by simp [gWon, e]
  have akN : ∀ X p, X ≠ T → (gWon g T k q (s k).lg).ak X p = g.ak X p := fun X p e => by simp [gWon, e]
  have elT : (gWon g T k q (s k).lg).el T = some k := by simp [gWon]
  have llT : (gWon g T k q (s k).lg).ll T = (s k).lg := by simp [gWon]
  have sm : ∀ p, (putM s k (gLead N k (s k)) p).tm = (s p).tm ∧ (putM s k (gLead N k (s k)) p).vt = (s p).vt ∧ (putM s k (gLead N k (s k)) p).lg = (s p).lg ∧ (putM s k (gLead N k (s k)) p).cm = (s p).cm := fun p => by
    by_cases e : p = k
    · rw [e, putM_self]; exact ⟨rfl, rfl, rfl, rfl⟩
    · rw [putM_ne _ _ _ e]; exact ⟨rfl, rfl, rfl, rfl⟩
  -- of another term: its entries and what a log has of them
  have akE : ∀ X p, 0 < (gWon g T k q (s k).lg).ak X p → X ≠ T → g.el X ≠ none := fun X p ha e he => by
    rw [akN X p e, (h.idle X he).2 p] at ha
    omega
  have ownT : ∀ n, 0 < n → n ≤ (s k).lg.length → ¬ OwnT (gWon g T k q (s k).lg) T n := fun n h0 h1 ho => by
    unfold OwnT at ho
    rw [llT] at ho
    have := hlt (n - 1) (by omega)
    omega
  have akT : ∀ p n, 0 < n → n ≤ (gWon g T k q (s k).lg).ak T p → n ≤ (s k).lg.length := fun p n h0 h1 => by
    simp [gWon] at h1
    split at h1 <;> omega
  have notT : ∀ X p n, 0 < n → n ≤ (gWon g T k q (s k).lg).ak X p → OwnT (gWon g T k q (s k).lg) X n → X ≠ T := fun X p n h0 h1 ho e => by
    subst e
    exact ownT n h0 (akT p n h0 h1) ho
  have hasE : ∀ X n (L : List Ge), X ≠ T → g.el X ≠ none → n ≤ (g.ll X).length → (HasT (gWon g T k q (s k).lg) L X n ↔ HasT g L X n) := fun X n L e he hn' => HasT.ext ex he hn' L
  refine ⟨fun p hp => by rw [(sm p).1]; exact h.tm0 p hp, fun X he => ?_, fun X he => ?_, fun X j he => ?_, fun X j p he hp hv' => ?_, fun j hj hl => ?_, fun j hj => ?_, fun X he => ?_, fun p i hp hi => ?_, fun X i hi => ?_, fun X p => ?_, fun X p hp ha => ?_, fun X p n hp h0 h1 ho => ?_, fun X X' p n hp he hqx hlt' h0 h1 ho => ?_, fun p hp => ?_⟩
  · by_cases e : X = T
    · rw [e]; exact hT0
    · rw [elN X e] at he; exact h.pos X he
  · by_cases e : X = T
    · simp [gWon, e]; exact hq
    · rw [elN X e] at he
      have := h.maj X he
      simp [gWon, e]; exact this
  · by_cases e : X = T
    · rw [e, elT] at he
      have : k = j := Option.some.inj he
      subst this
      exact ⟨hk, by simp [gWon, e]; exact hqk⟩
    · rw [elN X e] at he
      have := h.mine X j he
      exact ⟨this.1, by simp [gWon, e]; exact this.2⟩
  · rw [(sm p).1, (sm p).2.1]
    by_cases e : X = T
    · rw [e, elT] at he
      have : k = j := Option.some.inj he
      subst this
      have hv2 : q p = true := by simpa [gWon, e] using hv'
      have := hv p hp hv2
      exact .inr ⟨by rw [e]; exact this.1, this.2.1⟩
    · rw [elN X e] at he
      exact h.voted X j p he hp (by simpa [gWon, e] using hv')
  · rw [(sm j).1, (sm j).2.2.1]
    by_cases e : j = k
    · rw [e, htk]
      refine ⟨elT, llT, fun i hi => ?_⟩
      rw [putM_self]
      show ((List.replicate N 0).set k ((s k).lg.length : Int)).getD i 0 ≤ _
      by_cases e2 : i = k
      · rw [e2]
        simp [gWon, hk]
      · have : ((List.replicate N (0:Int)).set k ((s k).lg.length : Int)).getD i 0 = 0 := by
          rw [List.getD_eq_getElem?_getD, List.getElem?_set_ne (fun z => e2 z.symm)]
          simp [hi]
        rw [this]
        omega
    · rw [putM_ne _ _ _ e] at hl ⊢
      obtain ⟨z1, z2, z3⟩ := h.lead j hj hl
      have e3 : (s j).tm ≠ T := hne _ (by rw [z1]; simp)
      exact ⟨by rw [elN _ e3]; exact z1, by rw [llN _ e3]; exact z2, fun i hi => by rw [akN _ _ e3]; exact z3 i hi⟩
  · by_cases e : j = k
    · rw [e, putM_self]; simp [gLead]
    · rw [putM_ne _ _ _ e]; exact h.mtl j hj
  · by_cases e : X = T
    · rw [e, elT] at he; cases he
    · rw [elN X e] at he
      exact ⟨by rw [llN X e]; exact (h.idle X he).1, fun p => by rw [akN X p e]; exact (h.idle X he).2 p⟩
  · rw [(sm p).2.2.1] at hi ⊢
    rw [(sm p).1]
    exact (h.logs p i hp hi).ext ex
  · by_cases e : X = T
    · rw [e, llT] at hi ⊢
      have z := (h.logs k i hk hi).ext ex
      rw [htk] at z
      exact z
    · rw [llN X e] at hi ⊢
      exact (h.lls X i hi).ext ex
  · by_cases e : X = T
    · rw [e, llT]
      simp [gWon]
      split <;> omega
    · rw [akN X p e, llN X e]; exact h.akle X p
  · rw [(sm p).1]
    by_cases e : X = T
    · rw [e] at ha ⊢
      simp [gWon] at ha
      by_cases e2 : p = k
      · rw [e2, htk]; exact Int.le_refl _
      · simp [e2] at ha
    · rw [akN X p e] at ha; exact h.aktm X p hp ha
  · have e := notT X p n h0 h1 ho
    have hE := akE X p (by omega) e
    rw [akN X p e] at h1
    have hnl := Nat.le_trans h1 (h.akle X p)
    have ho' := (ex.own hE h0 hnl).1 ho
    rw [(sm p).2.2.1, (sm p).1]
    rcases h.acks X p n hp h0 h1 ho' with z | ⟨T', z1, z2, z3, z4⟩
    · exact .inl ((hasE X n _ e hE hnl).2 z)
    · refine .inr ⟨T', z1, z2, by rw [ex.el T' z3]; exact z3, fun z => z4 ?_⟩
      rw [llN T' (hne T' z3)] at z
      exact (hasE X n _ e hE hnl).1 z
  · have e := notT X p n h0 h1 ho
    have hE := akE X p (by omega) e
    rw [akN X p e] at h1
    have hnl := Nat.le_trans h1 (h.akle X p)
    have ho' := (ex.own hE h0 hnl).1 ho
    by_cases e' : X' = T
    · have hq2 : q p = true := by simpa [gWon, e'] using hqx
      obtain ⟨v1, v2, v3⟩ := hv p hp hq2
      rw [e', llT]
      rcases h.acks X p n hp h0 h1 ho' with z | ⟨T', z1, z2, z3, z4⟩
      · -- the voter's log has it
        have z0 : (s p).lg.take n = (g.ll X).take n := z
        have hpl : n ≤ (s p).lg.length := gtake_len z0 hnl
        have pne : (s p).lg ≠ [] := fun q => by rw [q] at hpl; simp at hpl; omega
        have tp := gLast_tm pne
        have hpX : X ≤ gLast (s p).lg := by
          rw [tp]
          have q1 := h.rise hp (show n - 1 ≤ (s p).lg.length - 1 by omega) (by omega)
          have q2 := tmAt_take z0 (show n - 1 < n by omega)
          have q3 : tmAt (g.ll X) (n - 1) = X := ho'
          omega
        have hX0 := h.pos X hE
        unfold gNewer at v3
        simp at v3
        obtain ⟨w1, w2⟩ := v3
        have kne : (s k).lg ≠ [] := fun q => by
          rw [q] at w1
          have : gLast ([] : List Ge) = 0 := rfl
          omega
        have tk := gLast_tm kne
        have hkl : (s k).lg.length - 1 < (s k).lg.length := by cases hh : (s k).lg with | nil => exact absurd hh kne | cons a l => simp
        obtain ⟨k1, k2, k3, k4⟩ := h.logs k _ hk hkl
        rw [← tk] at k1 k2 k3 k4
        rw [show (s k).lg.length - 1 + 1 = (s k).lg.length by omega, List.take_length] at k4
        by_cases hEq : gLast (s p).lg = gLast (s k).lg
        · have hle := w2 hEq
          obtain ⟨p1, p2, p3, p4⟩ := h.logs p ((s p).lg.length - 1) hp (by omega)
          rw [← tp] at p1 p2 p3 p4
          rw [show (s p).lg.length - 1 + 1 = (s p).lg.length by omega, List.take_length, hEq] at p4
          refine .inl ((hasE X n _ e hE hnl).2 ?_)
          show (s k).lg.take n = (g.ll X).take n
          rw [← z0]
          have a1 : (s k).lg.take n = (g.ll (gLast (s k).lg)).take n := by
            have := congrArg (List.take n) k4
            rw [List.take_take, Nat.min_eq_left (by omega)] at this
            exact this
          have a2 : (s p).lg.take n = (g.ll (gLast (s k).lg)).take n := by
            have := congrArg (List.take n) p4
            rw [List.take_take, Nat.min_eq_left (by omega)] at this
            exact this
          rw [a1, a2]
        · -- the candidate's last term is a later one
          have hlt2 : X < gLast (s k).lg := by omega
          have hltT : gLast (s k).lg < T := by rw [tk]; exact hlt _ hkl
          by_cases hh : HasT g (g.ll (gLast (s k).lg)) X n
          · refine .inl ((hasE X n _ e hE hnl).2 ?_)
            have hh0 : (g.ll (gLast (s k).lg)).take n = (g.ll X).take n := hh
            have hkn : n ≤ (s k).lg.length := by
              rcases Nat.lt_or_ge ((s k).lg.length - 1) n with hc | hc
              · exfalso
                have b1 := tmAt_take hh0 hc
                have b2 : tmAt (g.ll (gLast (s k).lg)) ((s k).lg.length - 1) = gLast (s k).lg := by
                  have := tmAt_take (n := (s k).lg.length) (L := (s k).lg) (M := g.ll (gLast (s k).lg)) (by rw [List.take_length]; exact k4) hkl
                  rw [← this, ← tk]
                have b3 := (h.lls X ((s k).lg.length - 1) (by omega)).2.1
                omega
              · omega
            show (s k).lg.take n = (g.ll X).take n
            rw [← hh0]
            have := congrArg (List.take n) k4
            rw [List.take_take, Nat.min_eq_left hkn] at this
            exact this
          · refine .inr ⟨gLast (s k).lg, hlt2, hltT, by rw [ex.el _ k1]; exact k1, fun z => hh ?_⟩
            rw [llN _ (hne _ k1)] at z
            exact (hasE X n _ e hE hnl).1 z
      · have : T' ≠ T := hne T' z3
        refine .inr ⟨T', z1, by omega, by rw [ex.el T' z3]; exact z3, fun z => z4 ?_⟩
        rw [llN T' this] at z
        exact (hasE X n _ e hE hnl).1 z
    · rw [elN X' e'] at he
      have hq2 : g.qs X' p = true := by simpa [gWon, e'] using hqx
      rw [llN X' e']
      rcases h.vots X X' p n hp he hq2 hlt' h0 h1 ho' with z | ⟨T'', z1, z2, z3, z4⟩
      · exact .inl ((hasE X n _ e hE hnl).2 z)
      · refine .inr ⟨T'', z1, z2, by rw [ex.el T'' z3]; exact z3, fun z => z4 ?_⟩
        rw [llN T'' (hne T'' z3)] at z
        exact (hasE X n _ e hE hnl).1 z
  · rw [(sm p).2.2.1, (sm p).2.2.2, (sm p).1]
    obtain ⟨z1, z2⟩ := h.cms p hp
    exact ⟨z1, z2.ext ex (Int.le_refl _)⟩
end
theorem tmAt_app (L M : List Ge) {i : Nat} (h : i < L.length) : tmAt (L ++ M) i = tmAt L i := by
  unfold tmAt
  rw [List.getD_eq_getElem?_getD, List.getD_eq_getElem?_getD, List.getElem?_append_left h]
theorem tmAt_end (L : List Ge) (e : Ge) : tmAt (L ++ [e]) L.length = e.tm := by
  unfold tmAt
  rw [List.getD_eq_getElem?_getD, List.getElem?_append_right (Nat.le_refl _)]
  simp
theorem gtake_app {L M : List Ge} {n : Nat} (h : n ≤ L.length) : (L ++ M).take n = L.take n := by
  rw [List.take_append_of_le_length h]
/-- a term's log grows -/
def gGrow (g : Gh) (T : Int) (k : Nat) (e : Ge) : Gh :=
  { g with ll := fun X => if X = T then g.ll T ++ [e] else g.ll X, ak := fun X p => if X = T ∧ p = k then (g.ll T).length + 1 else g.ak X p }
section
variable {N : Nat} {s : Gst} {g : Gh}
theorem SafeG.only (h : SafeG N s g) {j k : Nat} (hj : j < N) (hk : k < N) (lj : (s j).ld = true) (lk : (s k).ld = true) (e : (s j).tm = (s k).tm) : j = k := by
  have a := (h.lead j hj lj).1
  have b := (h.lead k hk lk).1
  rw [e, b] at a
  exact (Option.some.inj a).symm
theorem SafeG.grow (h : SafeG N s g) {k : Nat} (hk : k < N) (hl : (s k).ld = true) (tx : ByteArray) :
    SafeG N (putM s k { s k with lg := (s k).lg ++ [⟨(s k).tm, tx⟩], mt := (s k).mt.set k ((s k).lg.length + 1 : Nat) }) (gGrow g (s k).tm k ⟨(s k).tm, tx⟩) ∧ ExtT g (gGrow g (s k).tm k ⟨(s k).tm, tx⟩) := by
  obtain ⟨hel, hll, hmt⟩ := h.lead k hk hl
  obtain ⟨T, hT⟩ : ∃ T, T = (s k).tm := ⟨_, rfl⟩
  rw [← hT] at hel hll hmt ⊢
  obtain ⟨e, he⟩ : ∃ e : Ge, e = ⟨T, tx⟩ := ⟨_, rfl⟩
  rw [← he]
  obtain ⟨G, hG⟩ : ∃ G, G = gGrow g T k e := ⟨_, rfl⟩
  rw [← hG]
  have helN : g.el T ≠ none := by rw [hel]; simp
  have elG : G.el = g.el := by rw [hG]; rfl
  have qsG : G.qs = g.qs := by rw [hG]; rfl
  have llT : G.ll T = g.ll T ++ [e] := by rw [hG]; simp [gGrow]
  have llN : ∀ X, X ≠ T → G.ll X = g.ll X := fun X q => by rw [hG]; simp [gGrow, q]
  have akT : G.ak T k = (g.ll T).length + 1 := by rw [hG]; simp [gGrow]
  have akN : ∀ X p, ¬ (X = T ∧ p = k) → G.ak X p = g.ak X p := fun X p q => by rw [hG]; simp only [gGrow]; rw [if_neg q]
  have ex : ExtT g G := by
    refine ⟨fun X _ => by rw [elG], fun X _ => ?_, fun X p _ => ?_⟩
    · by_cases q : X = T
      · rw [q, llT]; simp
      · rw [llN X q]; simp
    · by_cases q : X = T ∧ p = k
      · rw [q.1, q.2, akT]; have := h.akle T k; omega
      · rw [akN X p q]; exact Nat.le_refl _
  refine ⟨?_, ex⟩
  have sm : ∀ p, (putM s k { s k with lg := (s k).lg ++ [e], mt := (s k).mt.set k ((s k).lg.length + 1 : Nat) } p).tm = (s p).tm ∧ (putM s k { s k with lg := (s k).lg ++ [e], mt := (s k).mt.set k ((s k).lg.length + 1 : Nat) } p).vt = (s p).vt ∧ (putM s k { s k with lg := (s k).lg ++ [e], mt := (s k).mt.set k ((s k).lg.length + 1 : Nat) } p).ld = (s p).ld ∧ (putM s k { s k with lg := (s k).lg ++ [e], mt := (s k).mt.set k ((s k).lg.length + 1 : Nat) } p).cm = (s p).cm := fun p => by
    by_cases q : p = k
    · rw [q, putM_self]; exact ⟨rfl, rfl, rfl, rfl⟩
    · rw [putM_ne _ _ _ q]; exact ⟨rfl, rfl, rfl, rfl⟩
  have lgK : (putM s k { s k with lg := (s k).lg ++ [e], mt := (s k).mt.set k ((s k).lg.length + 1 : Nat) } k).lg = g.ll T ++ [e] := by rw [putM_self, hll]
  have lgN : ∀ p, p ≠ k → (putM s k { s k with lg := (s k).lg ++ [e], mt := (s k).mt.set k ((s k).lg.length + 1 : Nat) } p).lg = (s p).lg := fun p q => by rw [putM_ne _ _ _ q]
  have hereT : ∀ i, i < (g.ll T).length + 1 → HereT G (g.ll T ++ [e]) i T := fun i hi => by
    by_cases q : i < (g.ll T).length
    · obtain ⟨z1, z2, z3, z4⟩ := (h.lls T i q).ext ex
      refine ⟨?_, ?_, ?_, ?_⟩
      · rw [tmAt_app _ _ q]; exact z1
      · rw [tmAt_app _ _ q]; exact z2
      · rw [tmAt_app _ _ q]; exact z3
      · rw [tmAt_app _ _ q, gtake_app (by omega)]; exact z4
    · have qi : i = (g.ll T).length := by omega
      have te : tmAt (g.ll T ++ [e]) i = T := by rw [qi, tmAt_end, he]
      refine ⟨by rw [te, elG]; exact helN, by rw [te]; exact Int.le_refl _, by rw [te, llT]; simp; omega, by rw [te, llT]⟩
  -- of another term: an entry more of T changes nothing of it
  have appH : ∀ X n, X ≠ T → g.el X ≠ none → 0 < n → n ≤ (g.ll X).length → OwnT g X n → (HasT g (g.ll T ++ [e]) X n ↔ HasT g (g.ll T) X n) := fun X n q hX h0 h1 ho => by
    constructor
    · intro z
      have z0 : (g.ll T ++ [e]).take n = (g.ll X).take n := z
      have hl := gtake_len z0 h1
      rw [List.length_append] at hl
      simp at hl
      by_cases c : n ≤ (g.ll T).length
      · rw [gtake_app c] at z0; exact z0
      · exfalso
        have w1 := tmAt_take z0 (show n - 1 < n by omega)
        rw [show n - 1 = (g.ll T).length by omega, tmAt_end, he] at w1
        have w2 : tmAt (g.ll X) (n - 1) = X := ho
        rw [show n - 1 = (g.ll T).length by omega] at w2
        exact q (by rw [← w2, ← w1])
    · intro z
      have z0 : (g.ll T).take n = (g.ll X).take n := z
      have hl := gtake_len z0 h1
      show (g.ll T ++ [e]).take n = (g.ll X).take n
      rw [gtake_app hl]; exact z0
  have hasN : ∀ X Y n, X ≠ T → g.el X ≠ none → 0 < n → n ≤ (g.ll X).length → OwnT g X n → (HasT G (G.ll Y) X n ↔ HasT g (g.ll Y) X n) := fun X Y n q hX h0 h1 ho => by
    rw [HasT.ext ex hX h1]
    by_cases c : Y = T
    · rw [c, llT]; exact appH X n q hX h0 h1 ho
    · rw [llN Y c]
  have elA : ∀ X p, 0 < g.ak X p → g.el X ≠ none := fun X p ha q => by rw [(h.idle X q).2 p] at ha; omega
  refine ⟨fun p hp => by rw [(sm p).1]; exact h.tm0 p hp, fun X hX => h.pos X (by rw [← elG]; exact hX), fun X hX => by rw [qsG]; exact h.maj X (by rw [← elG]; exact hX), fun X j hX => by rw [qsG]; exact h.mine X j (by rw [← elG]; exact hX), fun X j p hX hp hv => by rw [(sm p).1, (sm p).2.1]; exact h.voted X j p (by rw [← elG]; exact hX) hp (by rw [← qsG]; exact hv), fun j hj hlj => ?_, fun j hj => ?_, fun X hX => ?_, fun p i hp hi => ?_, fun X i hi => ?_, fun X p => ?_, fun X p hp ha => ?_, fun X p n hp h0 h1 ho => ?_, fun X X' p n hp hX' hq hlt h0 h1 ho => ?_, fun p hp => ?_⟩
  · rw [(sm j).2.2.1] at hlj
    rw [(sm j).1, elG]
    by_cases q : j = k
    · rw [q, ← hT]
      refine ⟨hel, by rw [lgK, llT], fun i hi => ?_⟩
      rw [putM_self]
      show ((s k).mt.set k (((s k).lg.length + 1 : Nat) : Int)).getD i 0 ≤ _
      by_cases c : i = k
      · rw [c, akT, ← hll, List.getD_eq_getElem?_getD, List.getElem?_set_self (by rw [h.mtl k hk]; exact hk)]
        simp
      · rw [akN T i (fun z => c z.2), List.getD_eq_getElem?_getD, List.getElem?_set_ne (fun z => c z.symm), ← List.getD_eq_getElem?_getD]
        exact hmt i hi
    · have c : (s j).tm ≠ T := fun z => q (h.only hj hk hlj hl (by rw [z, hT]))
      rw [putM_ne _ _ _ q]
      obtain ⟨z1, z2, z3⟩ := h.lead j hj hlj
      exact ⟨z1, by rw [llN _ c]; exact z2, fun i hi => by rw [akN _ _ (fun z => c z.1)]; exact z3 i hi⟩
  · by_cases q : j = k
    · rw [q, putM_self]
      show ((s k).mt.set k _).length = N
      rw [List.length_set]; exact h.mtl k hk
    · rw [putM_ne _ _ _ q]; exact h.mtl j hj
  · rw [elG] at hX
    have c : X ≠ T := fun z => helN (by rw [← z]; exact hX)
    exact ⟨by rw [llN X c]; exact (h.idle X hX).1, fun p => by rw [akN X p (fun z => c z.1)]; exact (h.idle X hX).2 p⟩
  · rw [(sm p).1]
    by_cases q : p = k
    · rw [q] at hi ⊢
      rw [lgK] at hi ⊢
      rw [← hT]
      exact hereT i (by simpa using hi)
    · rw [lgN p q] at hi ⊢
      exact (h.logs p i hp hi).ext ex
  · by_cases q : X = T
    · rw [q] at hi ⊢
      rw [llT] at hi ⊢
      exact hereT i (by simpa using hi)
    · rw [llN X q] at hi ⊢
      exact (h.lls X i hi).ext ex
  · by_cases q : X = T ∧ p = k
    · rw [q.1, q.2, akT, llT]; simp
    · rw [akN X p q]
      by_cases c : X = T
      · rw [c, llT]; have := h.akle T p; simp; omega
      · rw [llN X c]; exact h.akle X p
  · rw [(sm p).1]
    by_cases q : X = T ∧ p = k
    · rw [q.1, q.2, hT]; exact Int.le_refl _
    · rw [akN X p q] at ha; exact h.aktm X p hp ha
  · rw [(sm p).1]
    by_cases q : X = T ∧ p = k
    · left
      rw [q.1, q.2, lgK]
      show _ = (G.ll T).take n
      rw [llT]
    · rw [akN X p q] at h1
      have hX := elA X p (by omega)
      have hnl := Nat.le_trans h1 (h.akle X p)
      have ho' := (ex.own hX h0 hnl).1 ho
      rcases h.acks X p n hp h0 h1 ho' with z | ⟨T', z1, z2, z3, z4⟩
      · left
        rw [HasT.ext ex hX hnl]
        by_cases c : p = k
        · have z0 : (s p).lg.take n = (g.ll X).take n := z
          have hl' := gtake_len z0 hnl
          rw [c] at z0 hl' ⊢
          rw [lgK]
          rw [← hll] at z0 hl'
          show (g.ll T ++ [e]).take n = _
          rw [gtake_app hl']; exact z0
        · rw [lgN p c]; exact z
      · refine .inr ⟨T', z1, z2, by rw [elG]; exact z3, fun z => z4 ?_⟩
        by_cases c : X = T
        · rw [llN T' (by omega)] at z
          exact (HasT.ext ex hX hnl _).1 z
        · exact (hasN X T' n c hX h0 hnl ho').1 z
  · rw [elG] at hX'
    rw [qsG] at hq
    by_cases q : X = T ∧ p = k
    · exfalso
      obtain ⟨j, hj⟩ := Option.ne_none_iff_exists'.1 hX'
      have hv := h.voted X' j p hj hp hq
      rw [q.2, ← hT] at hv
      have := q.1
      omega
    · rw [akN X p q] at h1
      have hX := elA X p (by omega)
      have hnl := Nat.le_trans h1 (h.akle X p)
      have ho' := (ex.own hX h0 hnl).1 ho
      rcases h.vots X X' p n hp hX' hq hlt h0 h1 ho' with z | ⟨T'', z1, z2, z3, z4⟩
      · left
        by_cases c : X = T
        · rw [llN X' (by omega)]
          exact (HasT.ext ex hX hnl _).2 z
        · exact (hasN X X' n c hX h0 hnl ho').2 z
      · refine .inr ⟨T'', z1, z2, by rw [elG]; exact z3, fun z => z4 ?_⟩
        by_cases c : X = T
        · rw [llN T'' (by omega)] at z
          exact (HasT.ext ex hX hnl _).1 z
        · exact (hasN X T'' n c hX h0 hnl ho').1 z
  · rw [(sm p).2.2.2, (sm p).1]
    obtain ⟨z1, z2⟩ := h.cms p hp
    by_cases q : p = k
    · rw [q] at z1 z2 ⊢
      rw [lgK]
      rw [← hll] at z1 z2
      rw [gtake_app z1]
      exact ⟨by simp; omega, z2.ext ex (Int.le_refl _)⟩
    · rw [lgN p q]
      exact ⟨z1, z2.ext ex (Int.le_refl _)⟩
end
theorem gPart_tm : ∀ (a b : List Ge) (i : Nat), i < gPart a b → tmAt a i = tmAt b i
  | [], b, i, h => by cases b <;> simp [gPart] at h
  | _ :: _, [], i, h => by simp [gPart] at h
  | x :: a, y :: b, i, h => by
    rw [gPart] at h
    split at h
    · rename_i e
      cases i with
      | zero => exact e
      | succ i => exact gPart_tm a b i (by omega)
    · omega
theorem gPart_ge : ∀ (a b : List Ge) (n : Nat), n ≤ a.length → n ≤ b.length → a.take n = b.take n → n ≤ gPart a b
  | _, _, 0, _, _, _ => Nat.zero_le _
  | [], _, n + 1, h, _, _ => by simp at h
  | _ :: _, [], n + 1, _, h, _ => by simp at h
  | x :: a, y :: b, n + 1, h1, h2, h3 => by
    simp at h1 h2 h3
    rw [gPart, if_pos (by rw [h3.1])]
    have := gPart_ge a b n h1 h2 h3.2
    omega
section
variable {N : Nat} {s : Gst} {g : Gh}
/-- logs with one term at a place are one up to it -/
theorem SafeG.part (h : SafeG N s g) {t : Nat} (ht : t < N) (T : Int) : (s t).lg.take (gPart (s t).lg (g.ll T)) = (g.ll T).take (gPart (s t).lg (g.ll T)) := by
  have hle := gPart_le (s t).lg (g.ll T)
  rcases Nat.eq_zero_or_pos (gPart (s t).lg (g.ll T)) with h0 | h0
  · rw [h0]; simp
  · have e := gPart_tm (s t).lg (g.ll T) (gPart (s t).lg (g.ll T) - 1) (by omega)
    obtain ⟨_, _, _, z4⟩ := h.logs t (gPart (s t).lg (g.ll T) - 1) ht (by omega)
    obtain ⟨_, _, _, y4⟩ := h.lls T (gPart (s t).lg (g.ll T) - 1) (by omega)
    rw [show gPart (s t).lg (g.ll T) - 1 + 1 = gPart (s t).lg (g.ll T) by omega] at z4 y4
    rw [z4, e, ← y4]
theorem SafeG.next (h : SafeG N s g) {t : Nat} (ht : t < N) (T : Int) : (gNext (s t).lg (g.ll T) = (s t).lg ∧ (s t).lg.take (g.ll T).length = g.ll T) ∨ gNext (s t).lg (g.ll T) = g.ll T := by
  have hp := h.part ht T
  have hle := gPart_le (s t).lg (g.ll T)
  unfold gNext
  by_cases c : gPart (s t).lg (g.ll T) = (g.ll T).length
  · left
    rw [if_pos c]
    refine ⟨rfl, ?_⟩
    rw [c, List.take_length] at hp
    exact hp
  · right
    rw [if_neg c, hp, List.take_append_drop]
/-- what a member has got of a leader -/
def gCopied (s : Gst) (k t : Nat) : Gst :=
  putM (putM s k { s k with mt := (s k).mt.set t ((s k).lg.length : Int) }) t { s t with tm := (s k).tm, vt := if (s t).tm < (s k).tm then -1 else (s t).vt, ld := false, lg := gNext (s t).lg (s k).lg }
def gAck (g : Gh) (T : Int) (t n : Nat) : Gh := { g with ak := fun X p => if X = T ∧ p = t then n else g.ak X p }
theorem SafeG.copied (h : SafeG N s g) {k t : Nat} (hk : k < N) (ht : t < N) (htk : t ≠ k) (hl : (s k).ld = true) (hle : (s t).tm ≤ (s k).tm) :
    SafeG N (gCopied s k t) (gAck g (s k).tm t (s k).lg.length) ∧ ExtT g (gAck g (s k).tm t (s k).lg.length) ∧ (gCopied s k t t).lg.take (s k).lg.length = (s k).lg := by
  obtain ⟨hel, hll, hmt⟩ := h.lead k hk hl
  obtain ⟨T, hT⟩ : ∃ T, T = (s k).tm := ⟨_, rfl⟩
  rw [← hT] at hel hll hmt hle ⊢
  have helN : g.el T ≠ none := by rw [hel]; simp
  obtain ⟨G, hG⟩ : ∃ G, G = gAck g T t (s k).lg.length := ⟨_, rfl⟩
  rw [← hG]
  have elG : G.el = g.el := by rw [hG]; rfl
  have qsG : G.qs = g.qs := by rw [hG]; rfl
  have llG : G.ll = g.ll := by rw [hG]; rfl
  have akT : G.ak T t = (g.ll T).length := by rw [hG, hll]; simp [gAck]
  have akN : ∀ X p, ¬ (X = T ∧ p = t) → G.ak X p = g.ak X p := fun X p q => by rw [hG]; simp only [gAck]; rw [if_neg q]
  have ex : ExtT g G := by
    refine ⟨fun X _ => by rw [elG], fun X _ => by rw [llG]; simp, fun X p _ => ?_⟩
    by_cases q : X = T ∧ p = t
    · rw [q.1, q.2, akT]; exact h.akle T t
    · rw [akN X p q]; exact Nat.le_refl _
  obtain ⟨S, hS⟩ : ∃ S, S = gCopied s k t := ⟨_, rfl⟩
  rw [← hS]
  have sT : (S t).tm = T ∧ (S t).vt = (if (s t).tm < T then -1 else (s t).vt) ∧ (S t).ld = false ∧ (S t).cm = (s t).cm ∧ (S t).mt = (s t).mt ∧ (S t).lg = gNext (s t).lg (g.ll T) := by
    rw [hS]; unfold gCopied
    rw [putM_self, ← hT, hll]
    exact ⟨rfl, rfl, rfl, rfl, rfl, rfl⟩
  have sK : (S k).tm = T ∧ (S k).vt = (s k).vt ∧ (S k).ld = (s k).ld ∧ (S k).cm = (s k).cm ∧ (S k).mt = (s k).mt.set t ((s k).lg.length : Int) ∧ (S k).lg = (s k).lg := by
    rw [hS]; unfold gCopied
    rw [putM_ne _ _ _ (Ne.symm htk), putM_self]
    exact ⟨hT.symm, rfl, rfl, rfl, rfl, rfl⟩
  have sN : ∀ p, p ≠ t → p ≠ k → S p = s p := fun p q1 q2 => by
    rw [hS]; unfold gCopied
    rw [putM_ne _ _ _ q1, putM_ne _ _ _ q2]
  have tmS : ∀ p, (s p).tm ≤ (S p).tm := fun p => by
    by_cases q : p = t
    · rw [q, sT.1]; exact hle
    · by_cases c : p = k
      · rw [c, sK.1, hT]; exact Int.le_refl _
      · rw [sN p q c]; exact Int.le_refl _
  have nx := h.next ht T
  have nxT : (S t).lg.take (g.ll T).length = g.ll T := by
    rw [sT.2.2.2.2.2]
    rcases nx with ⟨z1, z2⟩ | z
    · rw [z1]; exact z2
    · rw [z, List.take_length]
  have lgN : ∀ p, p ≠ t → (S p).lg = (s p).lg := fun p q => by
    by_cases c : p = k
    · rw [c, sK.2.2.2.2.2]
    · rw [sN p q c]
  have cmS : ∀ p, (S p).cm = (s p).cm := fun p => by
    by_cases q : p = t
    · rw [q, sT.2.2.2.1]
    · by_cases c : p = k
      · rw [c, sK.2.2.2.1]
      · rw [sN p q c]
  have hG1 : ∀ (L : List Ge) X n, HasT G L X n ↔ HasT g L X n := fun L X n => by unfold HasT; rw [llG]
  have hG2 : ∀ X n, OwnT G X n ↔ OwnT g X n := fun X n => by unfold OwnT; rw [llG]
  have hG3 : ∀ (L : List Ge) i X, HereT g L i X → HereT G L i X := fun L i X z => by unfold HereT at z ⊢; rw [elG, llG]; exact z
  refine ⟨?_, ex, by rw [← hll]; exact nxT⟩
  refine ⟨fun p hp => Int.le_trans (h.tm0 p hp) (tmS p), fun X hX => h.pos X (by rw [← elG]; exact hX), fun X hX => by rw [qsG]; exact h.maj X (by rw [← elG]; exact hX), fun X j hX => by rw [qsG]; exact h.mine X j (by rw [← elG]; exact hX), fun X j p hX hp hv => ?_, fun j hj hlj => ?_, fun j hj => ?_, fun X hX => ?_, fun p i hp hi => ?_, fun X i hi => ?_, fun X p => ?_, fun X p hp ha => ?_, fun X p n hp h0 h1 ho => ?_, fun X X' p n hp hX' hq hlt h0 h1 ho => ?_, fun p hp => ?_⟩
  · rw [elG] at hX
    rw [qsG] at hv
    have z := h.voted X j p hX hp hv
    by_cases q : p = t
    · rw [q] at z ⊢
      rw [sT.1, sT.2.1]
      by_cases c : X < T
      · exact .inl c
      · right
        have e1 : (s t).tm = X := by omega
        have e2 : X = T := by omega
        refine ⟨e2.symm, ?_⟩
        rw [if_neg (by omega)]
        omega
    · by_cases c : p = k
      · rw [c] at z ⊢
        rw [sK.1, sK.2.1, hT]; exact z
      · rw [sN p q c]; exact z
  · by_cases q : j = t
    · rw [q, sT.2.2.1] at hlj; cases hlj
    · by_cases c : j = k
      · rw [c, sK.1, sK.2.2.2.2.2, sK.2.2.2.2.1, elG, llG]
        refine ⟨hel, hll, fun i hi => ?_⟩
        by_cases d : i = t
        · rw [d, akT, List.getD_eq_getElem?_getD, List.getElem?_set_self (by rw [h.mtl k hk]; exact ht), hll]
          simp
        · rw [akN T i (fun z => d z.2), List.getD_eq_getElem?_getD, List.getElem?_set_ne (fun z => d z.symm), ← List.getD_eq_getElem?_getD]
          exact hmt i hi
      · rw [sN j q c] at hlj ⊢
        have d : (s j).tm ≠ T := fun z => c (h.only hj hk hlj hl (by rw [z, hT]))
        obtain ⟨z1, z2, z3⟩ := h.lead j hj hlj
        exact ⟨by rw [elG]; exact z1, by rw [llG]; exact z2, fun i hi => by rw [akN _ _ (fun z => d z.1)]; exact z3 i hi⟩
  · by_cases q : j = t
    · rw [q, sT.2.2.2.2.1]; exact h.mtl t ht
    · by_cases c : j = k
      · rw [c, sK.2.2.2.2.1, List.length_set]; exact h.mtl k hk
      · rw [sN j q c]; exact h.mtl j hj
  · rw [elG] at hX
    have c : X ≠ T := fun z => helN (by rw [← z]; exact hX)
    exact ⟨by rw [llG]; exact (h.idle X hX).1, fun p => by rw [akN X p (fun z => c z.1)]; exact (h.idle X hX).2 p⟩
  · apply hG3
    by_cases q : p = t
    · rw [q] at hi ⊢
      rw [sT.2.2.2.2.2] at hi ⊢
      rw [sT.1]
      rcases nx with ⟨z1, z2⟩ | z
      · rw [z1] at hi ⊢
        obtain ⟨y1, y2, y3, y4⟩ := h.logs t i ht hi
        exact ⟨y1, Int.le_trans y2 hle, y3, y4⟩
      · rw [z] at hi ⊢
        exact h.lls T i hi
    · rw [lgN p q] at hi ⊢
      obtain ⟨y1, y2, y3, y4⟩ := h.logs p i hp hi
      exact ⟨y1, Int.le_trans y2 (tmS p), y3, y4⟩
  · rw [llG] at hi ⊢
    exact hG3 _ _ _ (h.lls X i hi)
  · by_cases q : X = T ∧ p = t
    · rw [q.1, q.2, akT, llG]; exact Nat.le_refl _
    · rw [akN X p q, llG]; exact h.akle X p
  · by_cases q : X = T ∧ p = t
    · rw [q.1, q.2, sT.1]; exact Int.le_refl _
    · rw [akN X p q] at ha; exact Int.le_trans (h.aktm X p hp ha) (tmS p)
  · rw [hG2] at ho
    by_cases q : X = T ∧ p = t
    · left
      rw [hG1, q.1, q.2]
      rw [q.1, q.2, akT] at h1
      have := congrArg (List.take n) nxT
      rw [List.take_take, Nat.min_eq_left h1] at this
      exact this
    · rw [akN X p q] at h1
      rcases h.acks X p n hp h0 h1 ho with z | ⟨T', z1, z2, z3, z4⟩
      · by_cases c : p = t
        · rw [c] at z h1 ⊢
          rcases nx with ⟨y1, _⟩ | y
          · left
            rw [hG1, sT.2.2.2.2.2, y1]; exact z
          · by_cases d : HasT g (g.ll T) X n
            · left
              rw [hG1, sT.2.2.2.2.2, y]; exact d
            · right
              have := h.aktm X t ht (by omega)
              have hne : X ≠ T := fun z => q ⟨z, c⟩
              refine ⟨T, by omega, by rw [sT.1]; exact Int.le_refl _, by rw [elG]; exact helN, ?_⟩
              rw [hG1, llG]; exact d
        · left
          rw [hG1, lgN p c]; exact z
      · exact .inr ⟨T', z1, Int.le_trans z2 (tmS p), by rw [elG]; exact z3, by rw [hG1, llG]; exact z4⟩
  · rw [elG] at hX'
    rw [qsG] at hq
    rw [hG2] at ho
    by_cases q : X = T ∧ p = t
    · exfalso
      obtain ⟨j, hj⟩ := Option.ne_none_iff_exists'.1 hX'
      have hv := h.voted X' j p hj hp hq
      rw [q.2] at hv
      have := q.1
      omega
    · rw [akN X p q] at h1
      rcases h.vots X X' p n hp hX' hq hlt h0 h1 ho with z | ⟨T'', z1, z2, z3, z4⟩
      · left
        rw [hG1, llG]; exact z
      · exact .inr ⟨T'', z1, z2, by rw [elG]; exact z3, by rw [hG1, llG]; exact z4⟩
  · rw [cmS p]
    obtain ⟨z1, z2⟩ := h.cms p hp
    by_cases q : p = t
    · rw [q] at z1 z2 ⊢
      rw [sT.2.2.2.2.2, sT.1]
      rcases nx with ⟨y1, _⟩ | y
      · rw [y1]; exact ⟨z1, z2.ext ex hle⟩
      · rw [y]
        have key : (s t).lg.take (s t).cm = (g.ll T).take (s t).cm ∧ (s t).cm ≤ (g.ll T).length := by
          rcases z2 with z0 | ⟨T0, n0, c1, c2, c3, c4, c5, c6, c7, c8⟩
          · have := congrArg List.length z0
            simp at this
            have : (s t).cm = 0 := by
              rcases this with e | e
              · exact e
              · rw [e] at z1; simp at z1; exact z1
            rw [this]; simp
          · have hl : ((s t).lg.take (s t).cm).length = (s t).cm := by rw [List.length_take]; omega
            rw [hl] at c7 c8
            have k1 := h.keptAll c3 c5 c6 (show T0 ≤ T by omega) helN
            have k2 : (g.ll T).take n0 = (g.ll T0).take n0 := k1
            have k3 := gtake_le k2 c7
            have k4 := gtake_len k2 c4
            exact ⟨by rw [c8, k3], by omega⟩
        refine ⟨key.2, ?_⟩
        rw [← key.1]
        exact z2.ext ex hle
    · rw [lgN p q]
      exact ⟨z1, z2.ext ex (tmS p)⟩
end
theorem CertT.pre {N : Nat} {g : Gh} {L : List Ge} {X : Int} (h : CertT N g L X) (c : Nat) : CertT N g (L.take c) X := by
  rcases h with rfl | ⟨T, n, h1, h2, h3, h4, h5, h6, h7, h8⟩
  · exact .inl (by simp)
  · refine .inr ⟨T, n, h1, h2, h3, h4, h5, h6, by rw [List.length_take]; omega, ?_⟩
    have := congrArg (List.take c) h8
    rw [List.take_take] at this
    rw [List.length_take]
    exact this
section
variable {N : Nat} {s : Gst} {g : Gh}
theorem SafeG.setCm (h : SafeG N s g) {k : Nat} (c : Nat) (hc : c ≤ (s k).lg.length) (hC : CertT N g ((s k).lg.take c) (s k).tm) : SafeG N (putM s k { s k with cm := c }) g := by
  have sm : ∀ p, (putM s k { s k with cm := c } p).tm = (s p).tm ∧ (putM s k { s k with cm := c } p).vt = (s p).vt ∧ (putM s k { s k with cm := c } p).ld = (s p).ld ∧ (putM s k { s k with cm := c } p).lg = (s p).lg ∧ (putM s k { s k with cm := c } p).mt = (s p).mt := fun p => by
    by_cases q : p = k
    · rw [q, putM_self]; exact ⟨rfl, rfl, rfl, rfl, rfl⟩
    · rw [putM_ne _ _ _ q]; exact ⟨rfl, rfl, rfl, rfl, rfl⟩
  refine ⟨fun p hp => by rw [(sm p).1]; exact h.tm0 p hp, h.pos, h.maj, h.mine, fun X j p => by rw [(sm p).1, (sm p).2.1]; exact h.voted X j p, fun j hj => by rw [(sm j).1, (sm j).2.2.1, (sm j).2.2.2.1, (sm j).2.2.2.2]; exact h.lead j hj, fun j hj => by rw [(sm j).2.2.2.2]; exact h.mtl j hj, h.idle, fun p i => by rw [(sm p).2.2.2.1, (sm p).1]; exact h.logs p i, h.lls, h.akle, fun X p => by rw [(sm p).1]; exact h.aktm X p, fun X p n => by rw [(sm p).2.2.2.1, (sm p).1]; exact h.acks X p n, h.vots, fun p hp => ?_⟩
  rw [(sm p).2.2.2.1, (sm p).1]
  by_cases q : p = k
  · rw [q, putM_self]; exact ⟨hc, hC⟩
  · rw [putM_ne _ _ _ q]; exact h.cms p hp
theorem gCnt_is (N : Nat) (m : Mb) : ∀ j, gCnt N m j = m.cm ∨ ∃ n, 0 < n ∧ n ≤ j ∧ tmAt m.lg (n - 1) = m.tm ∧ N < 2 * gHave m.mt n ∧ gCnt N m j = n
  | 0 => .inl rfl
  | j + 1 => by
    rw [gCnt]
    split
    · exact .inl rfl
    · split
      · rename_i c
        exact .inr ⟨j + 1, by omega, Nat.le_refl _, c.1, c.2, rfl⟩
      · rcases gCnt_is N m j with z | ⟨n, z1, z2, z3, z4, z5⟩
        · exact .inl z
        · exact .inr ⟨n, z1, by omega, z3, z4, z5⟩
theorem gHave_range {mt : List Int} {N : Nat} (h : mt.length = N) (n : Nat) : gHave mt n = (List.range N).countP (fun j => decide ((n : Int) ≤ mt.getD j 0)) := by
  have e : mt = (List.range N).map (fun j => mt.getD j 0) := by
    apply List.ext_getElem
    · simp [h]
    · intro i h1 h2
      simp [h1]
  unfold gHave
  conv => lhs; rw [e]
  rw [List.countP_map]
  rfl
theorem SafeG.count (h : SafeG N s g) {k : Nat} (hk : k < N) (hl : (s k).ld = true) : SafeG N (putM s k (gCount N (s k))) g := by
  obtain ⟨hel, hll, hmt⟩ := h.lead k hk hl
  unfold gCount
  rcases gCnt_is N (s k) (s k).lg.length with z | ⟨n, z1, z2, z3, z4, z5⟩
  · rw [z]
    exact h.setCm _ (h.cms k hk).1 (h.cms k hk).2
  · rw [z5]
    refine h.setCm n z2 (.inr ⟨(s k).tm, n, Int.le_refl _, by rw [hel]; simp, z1, by rw [hll]; exact z2, ?_, ?_, by rw [List.length_take]; omega, by rw [hll, List.length_take, Nat.min_eq_left z2]⟩)
    · unfold OwnT; rw [hll]; exact z3
    · unfold MajN
      rw [gHave_range (h.mtl k hk)] at z4
      refine Nat.lt_of_lt_of_le z4 (Nat.mul_le_mul_left 2 (List.countP_mono_left fun j hj hx => ?_))
      simp at hj hx ⊢
      have := hmt j hj
      simp at this
      omega
theorem SafeG.copy (h : SafeG N s g) {k : Nat} (hk : k < N) (t : Int) : ∃ g', SafeG N (gCopy N s k t).1 g' ∧ ExtT g g' := by
  unfold gCopy
  split
  · exact ⟨g, h, ExtT.refl g⟩
  · rename_i c1
    split
    · exact ⟨g, h, ExtT.refl g⟩
    · rename_i c2
      have hin : 0 ≤ t ∧ t < N := by
        have : gIn N t = true := by
          cases e : gIn N t with
          | true => rfl
          | false => exact absurd (.inl e) c1
        unfold gIn at this
        simp at this
        exact this
      obtain ⟨t', ht'⟩ := Int.eq_ofNat_of_zero_le hin.1
      subst ht'
      have tN : t' < N := by omega
      have tk : t' ≠ k := fun e => c1 (.inr (by rw [e]))
      rw [Int.toNat_natCast]
      split
      · rename_i c3
        refine ⟨g, h.quiet fun p hp => ?_, ExtT.refl g⟩
        show QtG (s p) (putM s k { s k with tm := (s t').tm, vt := -1, ld := false } p)
        by_cases q : p = k
        · rw [q, putM_self]
          exact ⟨rfl, by show (s k).tm ≤ (s t').tm; omega, fun e => (by have : (s t').tm = (s k).tm := e; omega), fun e => (by cases e), rfl, .inl rfl⟩
        · rw [putM_ne _ _ _ q]; exact QtG.refl _
      · rename_i c3
        have hl : (s k).ld = true := by cases e : (s k).ld with | true => rfl | false => exact absurd e c2
        obtain ⟨h1, e1, e2⟩ := h.copied hk tN tk hl (by omega)
        refine ⟨_, ?_, e1⟩
        have lk : (gCopied s k t' k) = { s k with mt := (s k).mt.set t' ((s k).lg.length : Int) } := by unfold gCopied; rw [putM_ne _ _ _ (Ne.symm tk), putM_self]
        have h2 := h1.count hk (by rw [lk]; exact hl)
        rw [lk] at h2
        obtain ⟨LE, hLE⟩ : ∃ m, m = gCount N { s k with mt := (s k).mt.set t' ((s k).lg.length : Int) } := ⟨_, rfl⟩
        rw [← hLE] at h2
        have at' : putM (gCopied s k t') k LE t' = { s t' with tm := (s k).tm, vt := if (s t').tm < (s k).tm then -1 else (s t').vt, ld := false, lg := gNext (s t').lg (s k).lg } := by rw [putM_ne _ _ _ tk]; unfold gCopied; rw [putM_self]
        have ek : putM (gCopied s k t') k LE k = LE := putM_self _ _ _
        have lgE : LE.lg = (s k).lg ∧ LE.tm = (s k).tm := by rw [hLE]; exact ⟨rfl, rfl⟩
        have cK := h2.cms k hk
        rw [ek, lgE.1, lgE.2] at cK
        have cT := h2.cms t' tN
        have key : SafeG N (putM (putM (gCopied s k t') k LE) t' { putM (gCopied s k t') k LE t' with cm := max (s t').cm (min LE.cm (gNext (s t').lg (s k).lg).length) }) (gAck g (s k).tm t' (s k).lg.length) := by
          rcases Nat.le_total (min LE.cm (gNext (s t').lg (s k).lg).length) (s t').cm with hm | hm
          · rw [Nat.max_eq_left hm]
            refine h2.setCm _ ?_ ?_
            · have z := cT.1; rw [at'] at z ⊢; exact z
            · have z := cT.2; rw [at'] at z ⊢; exact z
          · rw [Nat.max_eq_right hm]
            refine h2.setCm _ (by rw [at']; exact Nat.min_le_right _ _) ?_
            rw [at']
            show CertT N _ ((gNext (s t').lg (s k).lg).take (min LE.cm (gNext (s t').lg (s k).lg).length)) (s k).tm
            have n1 : (gNext (s t').lg (s k).lg).take (s k).lg.length = (s k).lg := by
              have z := e2
              unfold gCopied at z
              rw [putM_self] at z
              exact z
            have n2 : (gNext (s t').lg (s k).lg).take (min LE.cm (gNext (s t').lg (s k).lg).length) = ((s k).lg.take LE.cm).take (min LE.cm (gNext (s t').lg (s k).lg).length) := by
              rw [List.take_take, Nat.min_eq_left (Nat.min_le_left _ _)]
              have z := congrArg (List.take (min LE.cm (gNext (s t').lg (s k).lg).length)) n1
              rw [List.take_take, Nat.min_eq_left (Nat.le_trans (Nat.min_le_left _ _) cK.1)] at z
              exact z
            rw [n2]
            exact cK.2.pre _
        rw [at'] at key
        have fin : putM (putM (gCopied s k t') k LE) t' { s t' with tm := (s k).tm, vt := if (s t').tm < (s k).tm then -1 else (s t').vt, ld := false, lg := gNext (s t').lg (s k).lg, cm := max (s t').cm (min LE.cm (gNext (s t').lg (s k).lg).length) } = putM (putM s k LE) t' { s t' with tm := (s k).tm, vt := if (s t').tm < (s k).tm then -1 else (s t').vt, ld := false, lg := gNext (s t').lg (s k).lg, cm := max (s t').cm (min LE.cm (gNext (s t').lg (s k).lg).length) } := by
          funext j
          unfold gCopied putM
          split
          · rfl
          · split
            · rfl
            · rfl
        rw [← hLE]
        show SafeG N (putM (putM s k LE) t' _) _
        rw [fin] at key
        exact key
end
theorem countP_put {N P : Nat} (hP : P < N) (b : Bool) (q : Nat → Bool) (hq : q P = false) : (List.range N).countP (fun p => if p = P then b else q p) = (List.range N).countP q + b.toNat := by
  induction N with
  | zero => omega
  | succ N ih =>
    rw [List.range_succ, List.countP_append, List.countP_append]
    by_cases e : P = N
    · subst e
      have h1 : (List.range P).countP (fun p => if p = P then b else q p) = (List.range P).countP q := by
        apply List.countP_congr
        intro x hx
        simp at hx
        rw [if_neg (by omega)]
      rw [h1]
      cases b <;> simp [hq]
    · rw [ih (by omega)]
      have : (List.countP (fun p => if p = P then b else q p) [N]) = List.countP q [N] := by
        apply List.countP_congr
        intro x hx
        simp at hx
        rw [if_neg (by omega)]
      omega
theorem gath_is (N k : Nat) : ∀ (pe : List Int) (A : Nat → Bool) (s : Gst) (v : Nat), pe.all (gIn N) = true → A k = true → ∃ q : Nat → Bool, (∀ p, q p = true → p < N ∧ A p = false ∧ gWill (s k) k (gLate (s k) (s p)) = true ∧ (gGath k pe A s v).1 p = gVote (s k) k (s p)) ∧ (gGath k pe A s v).2 = v + (List.range N).countP q ∧ (∀ p, (gGath k pe A s v).1 p = s p ∨ (p ≠ k ∧ (gGath k pe A s v).1 p = gVote (s k) k (s p))) ∧ (∀ p, A p = true → (gGath k pe A s v).1 p = s p)
  | [], A, s, v, _, _ => ⟨fun _ => false, fun p h => (by cases h), by simp [gGath], fun p => .inl rfl, fun p _ => rfl⟩
  | x :: r, A, s, v, hall, hA => by
    simp at hall
    rw [gGath]
    by_cases c : A x.toNat = true
    · rw [if_pos c]
      exact gath_is N k r A s v (by simpa using hall.2) hA
    · rw [if_neg c]
      have cf : A x.toNat = false := by simpa using c
      have hx : x.toNat < N := by
        have := hall.1
        unfold gIn at this
        simp at this
        omega
      obtain ⟨P, hP⟩ : ∃ P, P = x.toNat := ⟨_, rfl⟩
      rw [← hP] at cf hx ⊢
      have hPk : k ≠ P := fun e => by rw [e, cf] at hA; cases hA
      have s2k : putM s P (gVote (s k) k (s P)) k = s k := putM_ne _ _ _ hPk
      obtain ⟨q2, z1, z2, z3, z4⟩ := gath_is N k r (gAsked A P) (putM s P (gVote (s k) k (s P))) (v + (gWill (s k) k (gLate (s k) (s P))).toNat) (by simpa using hall.2) (by unfold gAsked; rw [hA, Bool.or_true])
      rw [s2k] at z1 z3
      have aP : gAsked A P P = true := by simp [gAsked]
      have qP : q2 P = false := by
        cases e : q2 P with
        | false => rfl
        | true => have := (z1 P e).2.1; rw [aP] at this; cases this
      have rP := z4 P aP
      rw [putM_self] at rP
      refine ⟨fun p => if p = P then gWill (s k) k (gLate (s k) (s P)) else q2 p, fun p hp => ?_, ?_, fun p => ?_, fun p hp => ?_⟩
      · replace hp : (if p = P then gWill (s k) k (gLate (s k) (s P)) else q2 p) = true := hp
        by_cases e : p = P
        · rw [if_pos e] at hp
          rw [e]
          exact ⟨hx, cf, hp, rP⟩
        · rw [if_neg e] at hp
          obtain ⟨y1, y2, y3, y4⟩ := z1 p hp
          rw [putM_ne _ _ _ e] at y3 y4
          refine ⟨y1, ?_, y3, y4⟩
          unfold gAsked at y2
          simp [e] at y2
          exact y2
      · rw [z2, countP_put hx _ _ qP]
        omega
      · by_cases e : p = P
        · rw [e]; exact .inr ⟨Ne.symm hPk, rP⟩
        · rcases z3 p with y | ⟨y1, y⟩
          · rw [putM_ne _ _ _ e] at y; exact .inl y
          · rw [putM_ne _ _ _ e] at y; exact .inr ⟨y1, y⟩
      · have e : p ≠ P := fun e => by rw [e, cf] at hp; cases hp
        rw [z4 p (by unfold gAsked; rw [hp, Bool.or_true]), putM_ne _ _ _ e]
theorem QtG.vote (c : Mb) (k : Nat) (m : Mb) : QtG m (gVote c k m) := by
  unfold gVote gLate
  by_cases e : m.tm < c.tm
  · simp only [if_pos e]
    split
    · exact ⟨rfl, by show m.tm ≤ c.tm; omega, fun z => (by have : c.tm = m.tm := z; omega), fun z => (by cases z), rfl, .inl rfl⟩
    · exact ⟨rfl, by show m.tm ≤ c.tm; omega, fun z => (by have : c.tm = m.tm := z; omega), fun z => (by cases z), rfl, .inl rfl⟩
  · simp only [if_neg e]
    split
    · rename_i w
      refine ⟨rfl, Int.le_refl _, fun _ => ?_, fun z => ⟨z, rfl, rfl⟩, rfl, .inl rfl⟩
      unfold gWill at w
      simp at w
      rcases w.1.2 with y | y
      · exact .inr y
      · exact .inl (by show (k : Int) = m.vt; omega)
    · exact QtG.refl m
section
variable {N : Nat} {s : Gst} {g : Gh}
theorem SafeG.elect (h : SafeG N s g) {k : Nat} (hk : k < N) (pe : List Int) : ∃ g', SafeG N (gElect N s k pe).1 g' ∧ ExtT g g' := by
  unfold gElect
  split
  · rename_i hall
    dsimp only
    obtain ⟨q, z1, z2, z3, z4⟩ := gath_is N k pe (fun j => decide (j = k)) (gStart s k) 1 hall (by simp)
    obtain ⟨r, hr⟩ : ∃ r, r = gGath k pe (fun j => decide (j = k)) (gStart s k) 1 := ⟨_, rfl⟩
    rw [← hr] at z1 z2 z3 z4 ⊢
    have stk : gStart s k k = { s k with tm := (s k).tm + 1, vt := k, ld := false } := putM_self _ _ _
    have stN : ∀ p, p ≠ k → gStart s k p = s p := fun p e => putM_ne _ _ _ e
    have h1 : SafeG N (gStart s k) g := h.quiet fun p hp => by
      by_cases e : p = k
      · rw [e, stk]
        exact ⟨rfl, by show (s k).tm ≤ (s k).tm + 1; omega, fun z => (by have : (s k).tm + 1 = (s k).tm := z; omega), fun z => (by cases z), rfl, .inl rfl⟩
      · rw [stN p e]; exact QtG.refl _
    have h2 : SafeG N r.1 g := h1.quiet fun p hp => by
      rcases z3 p with y | ⟨_, y⟩
      · rw [y]; exact QtG.refl _
      · rw [y]; exact QtG.vote _ _ _
    split
    · rename_i hm
      have rk : r.1 k = gStart s k k := z4 k (by simp)
      rw [stk] at rk
      obtain ⟨T, hT⟩ : ∃ T, T = (s k).tm + 1 := ⟨_, rfl⟩
      have hT0 : 0 < T := by have := h.tm0 k hk; omega
      have qk : q k = false := by
        cases e : q k with
        | false => rfl
        | true => have := (z1 k e).2.1; simp at this
      obtain ⟨Q, hQ⟩ : ∃ Q : Nat → Bool, Q = fun p => if p = k then true else q p := ⟨_, rfl⟩
      have hQk : Q k = true := by rw [hQ]; simp
      have hQm : MajN N Q := by
        unfold MajN
        rw [hQ, countP_put hk true q qk]
        simp
        omega
      have hQv : ∀ p, p < N → Q p = true → (r.1 p).tm = T ∧ (r.1 p).vt = k ∧ gNewer (r.1 p).lg (r.1 k).lg = false := fun p hp hq => by
        by_cases e : p = k
        · rw [e, rk]
          refine ⟨hT.symm, rfl, ?_⟩
          unfold gNewer
          simp
        · rw [hQ] at hq
          simp [e] at hq
          obtain ⟨y1, y2, y3, y4⟩ := z1 p hq
          rw [stk, stN p e] at y3 y4
          rw [y4, rk]
          unfold gVote
          rw [if_pos y3]
          unfold gWill at y3
          simp at y3
          refine ⟨by rw [hT]; exact y3.1.1, rfl, ?_⟩
          exact y3.2
      have hnone : g.el T = none := by
        cases e : g.el T with
        | none => rfl
        | some j =>
          exfalso
          have hne : g.el T ≠ none := by rw [e]; simp
          obtain ⟨p, hp, y1, y2⟩ := MajN.meet (h2.maj T hne) hQm
          obtain ⟨w1, w2, w3⟩ := hQv p hp y2
          rcases h2.voted T j p e hp y1 with u | ⟨u1, u2⟩
          · omega
          · have ejk : j = k := by rw [w2] at u2; omega
            rw [ejk] at e
            have mine := h.mine T k e
            rcases h.voted T k k e hk mine.2 with u | ⟨u, _⟩ <;> omega
      have hlog : ∀ i, i < (r.1 k).lg.length → tmAt (r.1 k).lg i < T := fun i hi => by
        have el : (r.1 k).lg = (s k).lg := by rw [rk]
        rw [el] at hi ⊢
        have := (h.logs k i hk hi).2.1
        omega
      exact ⟨_, h2.won hk hT0 (by rw [rk]; exact hT.symm) hnone hlog Q hQm hQk hQv, gWon_ext hnone _ _ _⟩
    · exact ⟨g, h2, ExtT.refl g⟩
  · exact ⟨g, h, ExtT.refl g⟩
theorem SafeG.prop (h : SafeG N s g) {k : Nat} (hk : k < N) (tx : ByteArray) : ∃ g', SafeG N (gProp N s k tx).1 g' ∧ ExtT g g' := by
  unfold gProp
  split
  · exact ⟨g, h, ExtT.refl g⟩
  · rename_i c
    split
    · exact ⟨g, h, ExtT.refl g⟩
    · split
      · exact ⟨g, h, ExtT.refl g⟩
      · have hl : (s k).ld = true := by cases e : (s k).ld with | true => rfl | false => exact absurd e c
        obtain ⟨h1, e1⟩ := h.grow hk hl tx
        refine ⟨_, ?_, e1⟩
        have h2 := h1.count hk (by rw [putM_self]; exact hl)
        rw [putM_self, putM_putM] at h2
        exact h2
theorem SafeG.one (h : SafeG N s g) (o : Gop) : ∃ g', SafeG N (gOne N s o).1 g' ∧ ExtT g g' := by
  unfold gOne
  split
  · rename_i hin
    have hk : o.mb.toNat < N := by
      unfold gIn at hin
      simp at hin
      omega
    show ∃ g', SafeG N (gDo N s o.mb.toNat o).1 g' ∧ ExtT g g'
    unfold gDo
    split
    · exact h.elect hk _
    · split
      · exact h.prop hk _
      · split
        · exact h.copy hk _
        · split
          · refine ⟨g, h.quiet fun p hp => ?_, ExtT.refl g⟩
            show QtG (s p) (putM s o.mb.toNat { s o.mb.toNat with ld := false, cm := 0, mt := List.replicate N 0 } p)
            by_cases e : p = o.mb.toNat
            · rw [e, putM_self]
              exact ⟨rfl, Int.le_refl _, fun _ => .inl rfl, fun z => (by cases z), by show (List.replicate N (0 : Int)).length = _; rw [List.length_replicate, h.mtl _ hk], .inr rfl⟩
            · rw [putM_ne _ _ _ e]; exact QtG.refl _
          · exact ⟨g, h, ExtT.refl g⟩
  · exact ⟨g, h, ExtT.refl g⟩
end
def gh0 : Gh := ⟨fun _ => none, fun _ _ => false, fun _ => [], fun _ _ => 0⟩
theorem safe0 (N : Nat) : SafeG N (fun _ => mb0 N) gh0 :=
  ⟨fun _ _ => Int.le_refl _, fun T h => absurd rfl h, fun T h => absurd rfl h, fun T k h => (by cases h), fun T k p h => (by cases h), fun k _ h => (by cases h), fun k _ => List.length_replicate, fun T _ => ⟨rfl, fun _ => rfl⟩, fun p i _ h => (by simp [mb0] at h), fun T i h => (by simp [gh0] at h), fun T p => Nat.le_refl _, fun T p _ h => (by simp [gh0] at h), fun T p n _ h0 h1 => (by simp [gh0] at h1; omega), fun T T' p n _ h => absurd rfl h, fun p _ => ⟨Nat.le_refl _, .inl rfl⟩⟩
/-- what went on up to the i-th operation -/
noncomputable def gHist (N : Nat) (o : Nat → Gop) : (i : Nat) → { g : Gh // SafeG N (gR N o i).1 g }
  | 0 => ⟨gh0, safe0 N⟩
  | i + 1 => ⟨((gHist N o i).2.one (o i)).choose, ((gHist N o i).2.one (o i)).choose_spec.1⟩
theorem gHist_step (N : Nat) (o : Nat → Gop) (i : Nat) : ExtT (gHist N o i).1 (gHist N o (i + 1)).1 := ((gHist N o i).2.one (o i)).choose_spec.2
theorem gHist_ext (N : Nat) (o : Nat → Gop) {i j : Nat} (h : i ≤ j) : ExtT (gHist N o i).1 (gHist N o j).1 := by
  induction j with
  | zero => rw [Nat.le_zero.1 h]; exact ExtT.refl _
  | succ j ih =>
    by_cases e : i = j + 1
    · rw [e]; exact ExtT.refl _
    · exact (ih (by omega)).trans (gHist_step N o j)
/-- what is committed behind one operation -/
def Told (N : Nat) (o : Nat → Gop) (L : List Ge) (i : Nat) : Prop := ∃ X, CertT N (gHist N o i).1 L X
theorem Told.later {N : Nat} {o : Nat → Gop} {L : List Ge} {i j : Nat} (h : Told N o L i) (hij : i ≤ j) : Told N o L j := by
  obtain ⟨X, hX⟩ := h
  exact ⟨X, hX.ext (gHist_ext N o hij) (Int.le_refl _)⟩
theorem told_at (N : Nat) (o : Nat → Gop) (i p : Nat) (hp : p < N) : ((gR N o i).1 p).cm ≤ ((gR N o i).1 p).lg.length ∧ Told N o (((gR N o i).1 p).lg.take ((gR N o i).1 p).cm) i :=
  ⟨((gHist N o i).2.cms p hp).1, _, ((gHist N o i).2.cms p hp).2⟩
theorem told_agree {N : Nat} {o : Nat → Gop} {L M : List Ge} {i : Nat} (hL : Told N o L i) (hM : Told N o M i) (c : Nat) (h1 : c ≤ L.length) (h2 : c ≤ M.length) : L.take c = M.take c := by
  obtain ⟨X, hX⟩ := hL
  obtain ⟨Y, hY⟩ := hM
  exact CertT.agree (gHist N o i).2 hX hY c h1 h2
/-- at most one member leads in a term, at whatever times -/
theorem one_leads (N : Nat) (o : Nat → Gop) {i j p q : Nat} (hij : i ≤ j) (hp : p < N) (hq : q < N) (lp : ((gR N o i).1 p).ld = true) (lq : ((gR N o j).1 q).ld = true) (e : ((gR N o i).1 p).tm = ((gR N o j).1 q).tm) : p = q := by
  have a := ((gHist N o i).2.lead p hp lp).1
  have b := ((gHist N o j).2.lead q hq lq).1
  have c := (gHist_ext N o hij).el _ (by rw [a]; simp)
  rw [a, e, b] at c
  exact (Option.some.inj c).symm
end Go.Proofs.Ytmhkelfmciepaaa
