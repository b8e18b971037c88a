import Derived.RangeFuncNested
import Derived.RangeFuncBound
import Derived.RangeFuncCalls
import Derived.RangeFuncLeaves
import Derived.WalkKit
import Derived.Test.YtngkiokibldfjaaGreatDoorProg
import Derived.Test.YtngkiokibldfjaaGreatDoorBase
import Derived.Test.YtngkiokibldfjaaGreatDoorPA
import Derived.Deep.RegionHeld3
import Derived.Deep.MidRow
import Derived.WalkLawsBesides
import Derived.WalkSpells
import Derived.OpenShut
import Derived.BigQuiet
import Derived.Deep.QuietTactic
import Derived.Lib.ConvBytes
namespace Go.Proofs.YtngkiokibldfjaaGreatDoor
open Go.RowKit
/-! A range over a function whose iterator has places of its own that it writes between two rounds. -/
/-- An iterator that hands over enc 0, enc 1 .. enc (N - 1): between two rounds it takes a world to another by R alone; a round that goes on keeps what Kp says. -/
def SeqR (F : Fence) (n : Nat) (P : Program) (g : Nat) (lb : Array Value) (N : Nat) (enc : Nat → Array Value) (R Kp : World → World → Prop) (w : World) : Prop :=
  ∀ (l : Nat) (J Jx : Nat → World → Prop) (W : World), Below w.heap.size w W → (∀ k A B, J k A → R A B → J k B) → (∀ k A B, Jx k A → R A B → Jx k B) →
    (∀ k W1, k < N → J k W1 → YieldAt F (n - 1) P l (enc k) W1 fun e W' => (e = .returned (.bool true) ∧ J (k + 1) W' ∧ Kp W1 W') ∨ (e = .returned (.bool false) ∧ Jx (k + 1) W')) →
    J 0 W → CallsIn F n P g (#[.func (.yield l) #[] #[]] ++ lb) W fun e W' => (∃ v, e = .returned v) ∧ (J N W' ∨ ∃ k, k ≤ N ∧ Jx k W')
/-- how a round may be left -/
def postR (B : Nat) (Kp : World → World → Prop) (I : Nat → World → Prop) (Ix : Code → Nat → World → Prop) (k : Nat) (W : World) : Exit → Act → World → Prop
  | .normal, _, W' => KeepsFrom B W W' ∧ Kp W W' ∧ I k W'
  | .ret, _, W' => KeepsFrom B W W' ∧ Ix .ret k W'
  | .exit id, _, W' => KeepsFrom B W W' ∧ Ix (.exit id) k W'
  | .goto t, _, W' => KeepsFrom B W W' ∧ Ix (.goto t) k W'
  | .panic _, _, _ => False
  | .outgrown, _, _ => False
/-- the two blocks of a loop's book-keeping -/
structure Books (B : Nat) (r : Loop) (W : World) : Prop where
  rc : W.heap[B + 1]? = some (.loop r)
  df : W.heap[B]? = some (.deferred (some []))
theorem Books.keeps {B : Nat} {r : Loop} {W W' : World} (h : Books B r W) (k : KeepsFrom B W W') : Books B r W' := ⟨k.same _ _ (by omega) h.rc rfl, k.same _ _ (Nat.le_refl _) h.df rfl⟩
theorem Books.put {B : Nat} {r : Loop} {W : World} (h : Books B r W) (r' : Loop) : Books B r' (W.putObj (B + 1) (.loop r')) :=
  ⟨World.putObj_heap_same (Array.getElem?_eq_some_iff.1 h.rc).1, (World.putObj_heap_other (by omega)).trans h.df⟩
theorem own_put {B : Nat} {r : Loop} {W : World} {I : Nat → World → Prop} (hI : OwnFrom B I) {k : Nat} (hi : I k W) (h : Books B r W) (r' : Loop) : I k (W.putObj (B + 1) (.loop r')) := hI.putObj _ hi (by omega) h.rc rfl
theorem wpIn_rangeR {F : Fence} {n : Nat} {P : Program} {g : Operand} {ps : Array Tmp} {assign body : Code} {Q : Exit → Act → World → Prop} {a : Act} {w : World}
    (hro : F.round = none) (h1 : 1 ≤ n) {gf : Nat} {lb : Array Value} (hg : a.eval g = .func (.func gf) #[] lb) (hFg : F.fn gf) (eg : ∀ args w, (callFunc gf args).run P w = .ok (.enter gf args) w)
    {N : Nat} {enc : Nat → Array Value} {R Kp : World → World → Prop} {w0 : World} (hseq : SeqR F (n - 1) P gf lb N enc R Kp w0) (hb0 : Below w0.heap.size w0 w)
    (hKt : ∀ {A B C : World}, Kp A B → Kp B C → Kp A C) (hKb : ∀ (W : World) (l : Nat) (o o' : Obj), w.heap.size ≤ l → W.heap[l]? = some o → o.isCells = false → o.isWalk = false → Kp W (W.putObj l o'))
    (hRk : ∀ A B, R A B → KeepsFrom w.heap.size A B) (hps : ∀ k, (enc k).size = ps.size)
    (I : Nat → World → Prop) (Ix : Code → Nat → World → Prop) (hI : OwnFrom w.heap.size I) (hIx : ∀ c, OwnFrom w.heap.size (Ix c))
    (hIR : ∀ k A B, I k A → R A B → I k B) (hIxR : ∀ c k A B, Ix c k A → R A B → Ix c k B) (h0 : I 0 w)
    (Ax : Nat → Act → World → Prop) (hAx : ∀ k a', OwnFrom w.heap.size (fun (_ : Unit) W => Ax k a' W))
    (hassign : ∀ (l k : Nat) (W : World) (K : Act → World → Prop), k < N → I k W → (∀ a' W', KeepsFrom w.heap.size W W' → Kp W W' → I k W' → Ax k a' W' → K a' W') →
      assign.wpIn (F.inRound l) (n - 1 - 1) P (Exit.then K (fun _ _ _ => False)) { tmps := (ps.zip (enc k)).foldl (fun t (p, v) => t.setIfInBounds p v) a.tmps, defers := [] } W)
    (hbody : ∀ (l k : Nat) (a' : Act) (W : World), w.heap.size ≤ l → (∃ r, W.heap[l]? = some (.loop r)) → k < N → I k W → Ax k a' W → body.wpIn (F.inRound l) (n - 1 - 1) P (postR w.heap.size Kp I Ix (k + 1) W) a' W)
    (hdone : ∀ (D : Nat) (W : World), w.heap.size ≤ D → I N W → W.heap[D]? = some (.deferred (some [])) → Q .normal { a with defers := { target := .collected D, args := #[] } :: a.defers } W)
    (hstop : ∀ (D : Nat) (c : Code) (k : Nat) (W : World), w.heap.size ≤ D → k ≤ N → Ix c k W → W.heap[D]? = some (.deferred (some [])) → c.wpIn F n P Q { a with defers := { target := .collected D, args := #[] } :: a.defers } W) :
    (Code.rangeFunc g ps assign body).wpIn F n P Q a w := by
  refine wpIn_rangeFunc fun fn hfn => ?_
  rw [hro]
  let lp : LoopState → Option Code → Loop := fun st pe => { state := st, pending := pe, fn, tmps := a.tmps, params := ps, assign, body, defers := w.heap.size }
  let W1 := (w.alloc (.deferred (some []))).alloc (.loop (lp .ready none))
  have bk : Books w.heap.size (lp .ready none) W1 := by
    refine ⟨?_, (Below.heap_alloc _ _ _ (by simp)).trans (World.alloc_heap_new w _)⟩
    have := World.alloc_heap_new (w.alloc (.deferred (some []))) (.loop (lp .ready none))
    rwa [World.size_alloc] at this
  have hI1 : I 0 W1 := hI.alloc _ (hI.alloc _ h0)
  have hb1 : Below w0.heap.size w0 W1 := hb0.trans ((((Below.refl _ w).alloc (Nat.le_refl _) _).alloc (by simp) _).mono hb0.size)
  refine ⟨w.heap.size + 1, [{ target := .collected w.heap.size, args := #[] }], W1, { target := .fn (.func gf) lb, args := #[.func (.yield (w.heap.size + 1)) #[] #[]] }, W1, gf, #[.func (.yield (w.heap.size + 1)) #[] #[]] ++ lb, W1, run_enterLoop_outer _ _ _ _ _, ?_, ?_, ?_, fun _ => h1, ?_⟩
  · simp only [resolve, hg]
    simp [go_sem]
  · intro f' hf'
    simp [Target.leads] at hf'
    subst hf'
    exact hFg
  · simp [invoke, go_sem, eg]
  have round : ∀ k W, k < N → (I k W ∧ Books w.heap.size (lp .ready none) W) → YieldAt F (n - 1 - 1) P (w.heap.size + 1) (enc k) W fun e W' =>
      (e = .returned (.bool true) ∧ (I (k + 1) W' ∧ Books w.heap.size (lp .ready none) W') ∧ Kp W W') ∨ (e = .returned (.bool false) ∧ ∃ c, Ix c (k + 1) W' ∧ Books w.heap.size (lp .done (some c)) W') := by
    rintro k W hk ⟨hi, hw⟩
    refine ⟨fn, _, assign, body, run_yield (P := P) (args := enc k) hw.rc (hps k), roundIn_of_wpIn hfn (hassign _ k W _ hk hi ?_)⟩
    intro a' V hkf hkp hiV hax
    have hv := hw.keeps hkf
    refine ⟨_, run_beginRound hv.rc rfl, ?_⟩
    have hv2 := hv.put (lp .busy none)
    have kb : Kp V (V.putObj (w.heap.size + 1) (.loop (lp .busy none))) := hKb _ _ _ _ (by omega) hv.rc rfl rfl
    refine wpIn_mono (hbody _ k a' _ (by omega) ⟨_, hv2.rc⟩ hk (own_put hI hiV hv _) ((hAx k a').putObj (s := ()) _ hax (by omega) hv.rc rfl)) ?_
    intro e a3 X hp
    cases e with
    | normal =>
      have hx := hv2.keeps hp.1
      exact ⟨_, _, run_endRound none hx.rc, .inl ⟨rfl, ⟨own_put hI hp.2.2 hx _, hx.put _⟩, hKt hkp (hKt (hKt kb hp.2.1) (hKb _ _ _ _ (by omega) hx.rc rfl rfl))⟩⟩
    | ret =>
      have hx := hv2.keeps hp.1
      exact ⟨_, _, run_endRound (some .ret) hx.rc, .inr ⟨rfl, .ret, own_put (hIx _) hp.2 hx _, hx.put _⟩⟩
    | exit id =>
      have hx := hv2.keeps hp.1
      exact ⟨_, _, run_endRound (some (.exit id)) hx.rc, .inr ⟨rfl, .exit id, own_put (hIx _) hp.2 hx _, hx.put _⟩⟩
    | goto t =>
      have hx := hv2.keeps hp.1
      exact ⟨_, _, run_endRound (some (.goto t)) hx.rc, .inr ⟨rfl, .goto t, own_put (hIx _) hp.2 hx _, hx.put _⟩⟩
    | panic ch => exact hp.elim
    | outgrown => exact hp.elim
  refine (hseq (w.heap.size + 1) (fun k W => I k W ∧ Books w.heap.size (lp .ready none) W) (fun k W => ∃ c, Ix c k W ∧ Books w.heap.size (lp .done (some c)) W) W1 hb1
    (fun k A B h hr => ⟨hIR k A B h.1 hr, h.2.keeps (hRk A B hr)⟩) (fun k A B ⟨c, h⟩ hr => ⟨c, hIxR c k A B h.1 hr, h.2.keeps (hRk A B hr)⟩) round ⟨hI1, bk⟩).mono ?_
  rintro e X ⟨⟨v, rfl⟩, h⟩
  rcases h with ⟨hi, hx⟩ | ⟨k, hk, c, hi, hx⟩
  · exact ⟨none, _, run_endLoop hx.rc (by simp [lp]), hdone _ _ (Nat.le_refl _) (own_put hI hi hx _) ((hx.put _).df)⟩
  · exact ⟨some c, _, run_endLoop hx.rc (by simp [lp]), hstop _ c k _ (Nat.le_refl _) hk (own_put (hIx c) hi hx _) ((hx.put _).df)⟩
end Go.Proofs.YtngkiokibldfjaaGreatDoor
namespace Go.Proofs.YtngkiokibldfjaaGreatDoor
open Go.RowKit
/-! cmp.Compare, cmp.Or and the order of bids. -/
def cmpI (x y : Int) : Int := if x < y then -1 else if y < x then 1 else 0
def orI (x y : Int) : Int := if x ≠ 0 then x else y
set_option maxRecDepth 20000 in
theorem iCompare (x y : Int) (w : World) :
    Calls Tryz.prog 82 #[.int .i64 x, .int .i64 y] w fun e w' => e = .returned (.int .i64 (cmpI x y)) ∧ w' = w := by
  have N : ∀ (x : Int) (w : World), Calls Tryz.prog 98 #[.int .i64 x] w fun e w' => e = .returned (.bool false) ∧ w' = w := fun x w => by
    have dm : (x != x) = false := by simp
    go_enter Tryz.func98, Tryz.ntmps98
    go_wp2
    go_ret
    exact ⟨rfl, rfl⟩
  have NH := fun x w => hid (N x w)
  clear N
  by_cases h1 : x < y
  · have E : Hid (cmpI x y = -1) := if_pos h1
    have d1 : decide (x < y) = true := by simp; omega
    go_enter Tryz.func82, Tryz.ntmps82
    go_wp2_with fail
    refine (NH _ _).out.mono ?_
    rintro e w1 ⟨rfl, rfl⟩
    go_wp2_with fail
    refine (NH _ _).out.mono ?_
    rintro e w2 ⟨rfl, rfl⟩
    go_wp2
    go_ret
    exact ⟨by rw [E.out]; rfl, rfl⟩
  have d1 : decide (x < y) = false := by simp; omega
  by_cases h2 : y < x
  · have E : Hid (cmpI x y = 1) := by show _ = _; unfold cmpI; rw [if_neg h1, if_pos h2]
    have d2 : decide (y < x) = true := by simp; omega
    go_enter Tryz.func82, Tryz.ntmps82
    go_wp2_with fail
    refine (NH _ _).out.mono ?_
    rintro e w1 ⟨rfl, rfl⟩
    go_wp2_with fail
    refine (NH _ _).out.mono ?_
    rintro e w2 ⟨rfl, rfl⟩
    go_wp2
    go_ret
    exact ⟨by rw [E.out]; rfl, rfl⟩
  · have d2 : decide (y < x) = false := by simp; omega
    have E : Hid (cmpI x y = 0) := by show _ = _; unfold cmpI; rw [if_neg h1, if_neg h2]
    go_enter Tryz.func82, Tryz.ntmps82
    go_wp2_with fail
    refine (NH _ _).out.mono ?_
    rintro e w1 ⟨rfl, rfl⟩
    go_wp2_with fail
    refine (NH _ _).out.mono ?_
    rintro e w2 ⟨rfl, rfl⟩
    go_wp2
    go_ret
    exact ⟨by rw [E.out]; rfl, rfl⟩
/-- a bid's cells -/
def bidL (d m s : Int) : List Value := [.int .i64 d, .int .i64 m, .int .i64 s]
end Go.Proofs.YtngkiokibldfjaaGreatDoor
namespace Go.Proofs.YtngkiokibldfjaaGreatDoor
open Go.RowKit
/-! A block of n cells, told place by place. -/
def FRow (w : World) (b : Nat) (t : TypeId) (n : Nat) (f : Nat → Value) : Prop := ∃ cs : Array Value, RowAt w b t cs ∧ cs.size = n ∧ ∀ p, p < n → cs[p]? = some (f p)
theorem FRow.lt {w : World} {b : Nat} {t : TypeId} {n : Nat} {f : Nat → Value} (h : FRow w b t n f) : b < w.heap.size := h.choose_spec.1.lt
theorem FRow.cell {w : World} {b : Nat} {t : TypeId} {n : Nat} {f : Nat → Value} (h : FRow w b t n f) {p : Nat} (hp : p < n) : w.cell? ⟨b, p, none⟩ = some (f p) := by
  obtain ⟨cs, h1, h2, h3⟩ := h
  rw [h1.cell p]; exact h3 p hp
theorem FRow.free {w : World} {b : Nat} {t : TypeId} {n : Nat} {f : Nat → Value} (h : FRow w b t n f) (p : Nat) : w.frozen? ⟨b, p, none⟩ = false := h.choose_spec.1.free p
theorem FRow.alloc {w : World} {b : Nat} {t : TypeId} {n : Nat} {f : Nat → Value} (h : FRow w b t n f) (o : Obj) : FRow (w.alloc o) b t n f := by
  obtain ⟨cs, h1, h2, h3⟩ := h; exact ⟨cs, h1.alloc o, h2, h3⟩
theorem FRow.drew {w : World} {b : Nat} {t : TypeId} {n : Nat} {f : Nat → Value} (h : FRow w b t n f) : FRow w.drew b t n f := h
theorem FRow.below {w w' : World} {b m : Nat} {t : TypeId} {n : Nat} {f : Nat → Value} (h : FRow w b t n f) (hb : Below m w w') (hm : b < m) : FRow w' b t n f := by
  obtain ⟨cs, h1, h2, h3⟩ := h; exact ⟨cs, h1.below hb hm, h2, h3⟩
theorem FRow.far {w w' : World} {b : Nat} {t : TypeId} {n : Nat} {f : Nat → Value} {r : Option Nat} (h : FRow w b t n f) (hg : w.grownBy w' r) (hne : some b ≠ r) : FRow w' b t n f := by
  obtain ⟨cs, h1, h2, h3⟩ := h; exact ⟨cs, (hg.block b h1.lt hne).trans h1, h2, h3⟩
theorem FRow.other {w : World} {b : Nat} {t : TypeId} {n : Nat} {f : Nat → Value} (h : FRow w b t n f) (a : Addr) (v : Value) (hn : b ≠ a.block) : FRow (w.setCell a v) b t n f := by
  obtain ⟨cs, h1, h2, h3⟩ := h; exact ⟨cs, h1.other a v hn, h2, h3⟩
theorem FRow.congr {w : World} {b : Nat} {t : TypeId} {n : Nat} {f f' : Nat → Value} (h : FRow w b t n f) (e : ∀ p, p < n → f p = f' p) : FRow w b t n f' := by
  obtain ⟨cs, h1, h2, h3⟩ := h; exact ⟨cs, h1, h2, fun p hp => by rw [← e p hp]; exact h3 p hp⟩
def putF (f : Nat → Value) (i : Nat) (v : Value) (p : Nat) : Value := if p = i then v else f p
theorem FRow.set {w : World} {b : Nat} {t : TypeId} {n : Nat} {f : Nat → Value} (h : FRow w b t n f) (i : Nat) (v : Value) : FRow (w.setCell ⟨b, i, none⟩ v) b t n (putF f i v) := by
  obtain ⟨cs, h1, h2, h3⟩ := h
  refine ⟨_, h1.set i v, by simp [h2], fun p hp => ?_⟩
  unfold putF
  by_cases e : p = i
  · subst e; rw [if_pos rfl, Array.getElem?_setIfInBounds_self_of_lt (by omega)]
  · rw [if_neg e, Array.getElem?_setIfInBounds_ne (by omega)]; exact h3 p hp
/-- a range of cells laid anew -/
def layF (f : Nat → Value) (o : Nat) (vs : List Value) (p : Nat) : Value := if o ≤ p ∧ p < o + vs.length then vs.getD (p - o) undef else f p
theorem FRow.setCells {b : Nat} {t : TypeId} {n : Nat} : ∀ (vs : List Value) (o : Nat) {w : World} {f : Nat → Value}, FRow w b t n f → FRow (w.setCells b o vs) b t n (layF f o vs)
  | [], o, w, f, h => h.congr fun p _ => by unfold layF; rw [if_neg (by simp)]
  | v :: r, o, w, f, h => by
    rw [World.setCells]
    refine (FRow.setCells r (o + 1) (h.set o v)).congr fun p _ => ?_
    unfold layF putF
    by_cases e : p = o
    · subst e; rw [if_neg (by omega), if_pos rfl, if_pos (by simp)]; simp
    · by_cases h2 : o + 1 ≤ p ∧ p < o + 1 + r.length
      · rw [if_pos h2, if_pos (by simp; omega), show p - o = (p - (o + 1)) + 1 by omega]; simp
      · rw [if_neg h2, if_neg e, if_neg (by simp; omega)]
theorem setCells_grown {b : Nat} : ∀ (vs : List Value) (o : Nat) (w : World), w.grownBy (w.setCells b o vs) (some b)
  | [], _, w => below_grown (Below.refl _ _) _
  | v :: r, o, w => by rw [World.setCells]; exact grown_trans grown_set (setCells_grown r (o + 1) _)
theorem FRow.range {w : World} {b : Nat} {t : TypeId} {n : Nat} {f : Nat → Value} (h : FRow w b t n f) (o k : Nat) (hk : o + k ≤ n) : w.rangeAt b o ((List.range k).map fun j => f (o + j)) := fun j v hv => by
  have hj : j < k := by have := (List.getElem?_eq_some_iff.1 hv).1; simpa using this
  rw [h.cell (by omega)]
  rw [List.getElem?_map, List.getElem?_range hj] at hv
  exact hv
theorem FRow.there {w : World} {b : Nat} {t : TypeId} {n : Nat} {f : Nat → Value} (h : FRow w b t n f) (o k : Nat) (hk : o + k ≤ n) : w.there b o k := fun j hj =>
  ⟨by rw [h.cell (by omega)]; rfl, h.free _⟩
theorem FRow.of {w : World} {b : Nat} {t : TypeId} {cs : Array Value} {n : Nat} {f : Nat → Value} (h : RowAt w b t cs) (hn : cs.size = n) (hf : ∀ p, p < n → cs[p]? = some (f p)) : FRow w b t n f := ⟨cs, h, hn, hf⟩
theorem arr_of {cs : Array Value} {n : Nat} {f : Nat → Value} (hn : cs.size = n) (hf : ∀ p, p < n → cs[p]? = some (f p)) : cs = ((List.range n).map f).toArray := by
  apply Array.ext'
  apply List.ext_getElem?
  intro p
  rw [Array.getElem?_toList]
  by_cases hp : p < n
  · rw [hf p hp, List.getElem?_map, List.getElem?_range hp]; rfl
  · rw [Array.getElem?_eq_none (by omega), List.getElem?_eq_none (by simp; omega)]
theorem FRow.row {w : World} {b : Nat} {t : TypeId} {n : Nat} {f : Nat → Value} (h : FRow w b t n f) : RowAt w b t ((List.range n).map f).toArray := by
  obtain ⟨cs, h1, h2, h3⟩ := h
  rw [← arr_of h2 h3]; exact h1
end Go.Proofs.YtngkiokibldfjaaGreatDoor
namespace Go.Proofs.YtngkiokibldfjaaGreatDoor
open Go.RowKit
/-! Slices of numbers: read ('Ints'), written ('Wr'). -/
def ints (k : IntKind) (xs : List Int) : Array Value := (xs.map (Value.int k)).toArray
theorem ints_size (k : IntKind) (xs : List Int) : (ints k xs).size = xs.length := by simp [ints]
theorem ints_at {k : IntKind} {xs : List Int} {i : Nat} (h : i < xs.length) : (ints k xs)[i]? = some (.int k (xs.getD i 0)) := by
  simp [ints, h]
/-- The block b holds, from off on, these numbers; they may be written. -/
def Wr (k : IntKind) (w : World) (b off : Nat) (xs : List Int) : Prop :=
  ∃ cs t, RowAt w b t cs ∧ off + xs.length ≤ cs.size ∧ ∀ i, i < xs.length → cs[off + i]? = some (.int k (xs.getD i 0))
theorem Wr.lt {k : IntKind} {w : World} {b off : Nat} {xs : List Int} (h : Wr k w b off xs) : b < w.heap.size := by
  obtain ⟨cs, t, r, _⟩ := h; exact r.lt
theorem Wr.cell {k : IntKind} {w : World} {b off : Nat} {xs : List Int} (h : Wr k w b off xs) {i : Nat} (hi : i < xs.length) : w.cell? ⟨b, off + i, none⟩ = some (.int k (xs.getD i 0)) := by
  obtain ⟨cs, t, r, _, hc⟩ := h; rw [r.cell]; exact hc i hi
theorem Wr.free {k : IntKind} {w : World} {b off : Nat} {xs : List Int} (h : Wr k w b off xs) (i : Nat) : w.frozen? ⟨b, i, none⟩ = false := by
  obtain ⟨cs, t, r, _⟩ := h; exact r.free i
theorem Wr.of {k : IntKind} {w : World} {b : Nat} {t : TypeId} {xs : List Int} (h : RowAt w b t (ints k xs)) : Wr k w b 0 xs :=
  ⟨_, t, h, by rw [ints_size]; omega, fun i hi => by rw [Nat.zero_add]; exact ints_at hi⟩
theorem Wr.alloc {k : IntKind} {w : World} {b off : Nat} {xs : List Int} (h : Wr k w b off xs) (o : Obj) : Wr k (w.alloc o) b off xs := by
  obtain ⟨cs, t, r, h1, h2⟩ := h; exact ⟨cs, t, r.alloc o, h1, h2⟩
theorem Wr.drewN {k : IntKind} {w : World} {b off : Nat} {xs : List Int} (h : Wr k w b off xs) (n : Nat) : Wr k (w.drewN n) b off xs := h
theorem Wr.drew {k : IntKind} {w : World} {b off : Nat} {xs : List Int} (h : Wr k w b off xs) : Wr k w.drew b off xs := h
theorem Wr.below {k : IntKind} {w w' : World} {b off n : Nat} {xs : List Int} (h : Wr k w b off xs) (hb : Below n w w') (hn : b < n) : Wr k w' b off xs := by
  obtain ⟨cs, t, r, h1, h2⟩ := h; exact ⟨cs, t, r.below hb hn, h1, h2⟩
theorem Wr.far {k : IntKind} {w w' : World} {b off : Nat} {r : Option Nat} {xs : List Int} (h : Wr k w b off xs) (hg : w.grownBy w' r) (hne : some b ≠ r) : Wr k w' b off xs := by
  have hl := h.lt
  obtain ⟨cs, t, q, h1, h2⟩ := h; exact ⟨cs, t, (hg.block b hl hne).trans q, h1, h2⟩
theorem Wr.other {k : IntKind} {w : World} {b off : Nat} {xs : List Int} (h : Wr k w b off xs) (a : Addr) (v : Value) (hn : b ≠ a.block) : Wr k (w.setCell a v) b off xs := by
  obtain ⟨cs, t, r, h1, h2⟩ := h; exact ⟨cs, t, r.other a v hn, h1, h2⟩
theorem Wr.set {k : IntKind} {w : World} {b off : Nat} {xs : List Int} (h : Wr k w b off xs) (i : Nat) (x : Int) (hi : i < xs.length) : Wr k (w.setCell ⟨b, off + i, none⟩ (.int k x)) b off (xs.set i x) := by
  obtain ⟨cs, t, r, h1, h2⟩ := h
  refine ⟨_, t, r.set (off + i) _, by simp; omega, fun j hj => ?_⟩
  rw [List.length_set] at hj
  by_cases e : j = i
  · subst e
    rw [Array.getElem?_setIfInBounds_self_of_lt (by omega), List.getD_eq_getElem?_getD, List.getElem?_set_self hi]; rfl
  · rw [Array.getElem?_setIfInBounds_ne (by omega), h2 j hj, List.getD_eq_getElem?_getD, List.getD_eq_getElem?_getD, List.getElem?_set_ne (by omega)]
theorem wr_setRow {k : IntKind} {w : World} {b off : Nat} {xs : List Int} (h : Wr k w b off xs) (c : Array Value) {g : Nat} (hn : b ≠ g) : Wr k (w.setRow g c) b off xs := by
  obtain ⟨cs, t, r, h1, h2⟩ := h; exact ⟨cs, t, r.otherRow g c hn, h1, h2⟩
/-- A slice value that reads as these numbers. -/
def Ints (k : IntKind) (w : World) (a : Option Addr) (len cap : Nat) (xs : List Int) : Prop :=
  xs.length = len ∧ len ≤ cap ∧ (len = 0 ∨ ∃ b off, a = some ⟨b, off, none⟩ ∧ b < w.heap.size ∧ ∀ i, i < len → w.cell? ⟨b, off + i, none⟩ = some (.int k (xs.getD i 0)))
theorem Wr.ints {k : IntKind} {w : World} {b off : Nat} {xs : List Int} (h : Wr k w b off xs) {cap : Nat} (hc : xs.length ≤ cap) : Ints k w (some ⟨b, off, none⟩) xs.length cap xs :=
  ⟨rfl, hc, Or.inr ⟨b, off, rfl, h.lt, fun _ hi => h.cell hi⟩⟩
theorem Ints.below {k : IntKind} {w w' : World} {a : Option Addr} {len cap : Nat} {xs : List Int} (h : Ints k w a len cap xs) (hb : Below w.heap.size w w') : Ints k w' a len cap xs := by
  refine ⟨h.1, h.2.1, ?_⟩
  rcases h.2.2 with h0 | ⟨b, off, rfl, hl, hc⟩
  · exact Or.inl h0
  · exact Or.inr ⟨b, off, rfl, Nat.lt_of_lt_of_le hl hb.size, fun i hi => (hb.cell (p := ⟨b, off + i, none⟩) hl).trans (hc i hi)⟩
theorem Ints.alloc {k : IntKind} {w : World} {a : Option Addr} {len cap : Nat} {xs : List Int} (h : Ints k w a len cap xs) (o : Obj) : Ints k (w.alloc o) a len cap xs :=
  h.below ((Below.refl _ _).alloc (Nat.le_refl _) o)
theorem Ints.of_isRow {k : IntKind} {w : World} {a : Option Addr} {len cap : Nat} {zs : List Int} (h : IsRow k w a len cap zs) : Ints k w a len cap (zs.take len) := by
  rcases h with ⟨rfl, rfl, rfl, rfl⟩ | ⟨x, rfl, h1, h2, h3, hcell, _⟩
  · exact ⟨rfl, Nat.le_refl _, Or.inl rfl⟩
  · refine ⟨by rw [List.length_take]; omega, h1, ?_⟩
    by_cases h0 : len = 0
    · exact Or.inl h0
    · right
      obtain ⟨b, off, spot⟩ := x
      have hc := hcell 0 (by omega)
      have hspot : spot = none := by simpa [Addr.add] using World.cell?_spot hc
      subst hspot
      have hadd : ∀ i, (⟨b, off, none⟩ : Addr).add i = ⟨b, off + i, none⟩ := by intro i; unfold Addr.add; split <;> simp_all
      refine ⟨b, off, rfl, ?_, fun i hi => ?_⟩
      · have := World.block_lt_of_cell? w _ hc; rw [hadd] at this; exact this
      · have := hcell i (by omega)
        rw [hadd] at this
        rw [this, List.getD_eq_getElem?_getD, List.getD_eq_getElem?_getD, List.getElem?_take, if_pos hi]
/-- within the bounds of int64 -/
def In64 (xs : List Int) : Prop := ∀ x ∈ xs, -9223372036854775808 ≤ x ∧ x ≤ 9223372036854775807
theorem Tryz.info64 : (Tryz.prog.info? 2).map (fun i => (i.zero, i.size, i.bytes)) = some (some (.int .i64 0), 1, 8) := by kernel_rfl
theorem made64 (n : Nat) : madeCells (Value.int .i64 0).cells (n * 1) = ints .i64 (List.replicate n 0) := by
  apply Array.ext
  · simp [madeCells, ints]
  · intro i h1 h2
    simp [madeCells, ints, Value.cells, Nat.mod_one]
theorem mk64 (w : World) (n : Nat) (hn : n ≤ 17592186044416) : (Instr.makeSlice 63 (.int .i64 n) (.int .i64 n)).run Tryz.prog w = .ok (.slice (some ⟨w.heap.size, 0, none⟩) n n) (w.alloc (.cells (ints .i64 (List.replicate n 0)) 2)) := by
  obtain ⟨i0, hi, hz0, hz1, hz2⟩ := info_parts Tryz.info64
  have := run_make (P := Tryz.prog) w 63 2 i0 (.int .i64 0) Tryz.underlying63 hi hz0 .i64 .i64 n n (by omega) (Int.le_refl _) (by rw [hz2]; omega) (by omega)
  rw [this, hz1]
  simp only [Int.toNat_natCast, made64]
end Go.Proofs.YtngkiokibldfjaaGreatDoor
namespace Go.Proofs.YtngkiokibldfjaaGreatDoor
open Go.RowKit
theorem bal9 {w w' : World} (h : Below w.heap.size w w') (o : Obj) : Below w.heap.size w (w'.alloc o) := h.alloc h.size o
/-- the digits of a number ahead of a text -/
def digs : Nat → Nat → ByteArray → ByteArray
  | 0, _, s => s
  | f + 1, k, s => if k = 0 then s else digs f (k / 10) (strOfNums [((48 + k % 10 : Nat) : Int)] ++ s)
theorem digs_zero (f : Nat) (s : ByteArray) : digs f 0 s = s := by cases f <;> simp [digs]
/-- a mark -/
def markB (k : Nat) : ByteArray := ⟨#[109]⟩ ++ digs 20 k ⟨#[]⟩
theorem conv1 (W : World) (d : Int) : (convert 22 9 (.slice (some ⟨W.heap.size, 0, none⟩) 1 1)).run Tryz.prog (W.alloc (.cells #[.int .u8 d] 5)) = .ok (.string (strOfNums [d])) (W.alloc (.cells #[.int .u8 d] 5)) :=
  run_convert_bytes_arg (P := Tryz.prog) _ 22 5 Tryz.underlying22 Tryz.underlying5 W.heap.size 0 1 1 [d] rfl (fun i hi => by
    have e : i = 0 := by omega
    subst e
    exact (RowAt.new W 5 #[.int .u8 d]).cell 0) 9 Tryz.underlying9
set_option maxRecDepth 20000 in
set_option maxHeartbeats 2000000 in
theorem markT (k0 : Nat) (h1 : 1 ≤ k0) (hk : k0 ≤ 1073741824) (w : World) :
    Calls Tryz.prog 42 #[.int .i64 k0] w fun e w' => e = .returned (.string (markB k0)) ∧ Below w.heap.size w w' := by
  have d0 : ¬ (k0 : Int) ≤ 0 := by omega
  go_enter Tryz.func42, Tryz.ntmps42
  go_wp2_with fail
  go_loopw [0, 3] (fun x y wr => ∃ (f k : Nat) (s : ByteArray), k < 10 ^ f ∧ s.size + f ≤ 20 ∧ k ≤ 1073741824 ∧ x = .int .i64 k ∧ y = .string s ∧ digs f k s = digs 20 k0 ⟨#[]⟩ ∧ Below w.heap.size w wr) (fun x _ _ => (intOf x).toNat)
  case atStart => exact ⟨20, k0, ⟨#[]⟩, by omega, Nat.le_refl _, hk, rfl, rfl, rfl, Below.refl _ _⟩
  case round =>
    obtain ⟨f, k, s, hf, hsf, hkb, rfl, rfl, hd, hb⟩ := hrel
    have HD := hid hd
    have HB := hid hb
    clear hd hb
    by_cases hlt : 0 < k
    · have hlt' : (0 : Int) < (k : Int) := by omega
      obtain ⟨f', rfl⟩ : ∃ f', f = f' + 1 := ⟨f - 1, by cases f with | zero => simp at hf; omega | succ n => rfl⟩
      obtain ⟨d, hdd⟩ : ∃ d, d = 48 + k % 10 := ⟨_, rfl⟩
      have e1 : (k : Int) % 10 = ((k % 10 : Nat) : Int) := by simp
      have e2 : IntKind.u8.wrap (48 + (k : Int) % 10) = (d : Int) := by rw [IntKind.wrap_u8']; omega
      have e2' : IntKind.u8.wrap (48 + (k : Int).tmod 10) = (d : Int) := by rw [Int.tmod_eq_emod_of_nonneg (by omega)]; exact e2
      have hcv := fun W => conv1 W (d : Int)
      have ND : Hid (digs f' (k / 10) (strOfNums [((d : Nat) : Int)] ++ s) = digs 20 k0 ⟨#[]⟩) := by
        have h9 := HD.out
        unfold digs at h9
        rw [if_neg (by omega), ← hdd] at h9
        exact h9
      have hf' : k / 10 < 10 ^ f' := by rw [Nat.pow_succ] at hf; omega
      have hz1 : (strOfNums [(d : Int)]).size = 1 := strOfNums_size _
      have hz2 : (strOfNums [(d : Int)] ++ s).size + f' ≤ 20 := by rw [ByteArray.size_append, hz1]; omega
      have hz3 : Hid ((strOfNums [(d : Int)] ++ s).size + f' ≤ 20) := hz2
      clear hdd e1 hz2
      go_wp2
      go_roundw
      case rel => exact ⟨f', k / 10, strOfNums [((d : Nat) : Int)] ++ s, hf', hz3.out, by omega, by go_num, rfl, ND.out, bal9 HB.out _⟩
      case measure => simp [intOf]; omega
    · have hke : k = 0 := by omega
      have ND : Hid (s = digs 20 k0 ⟨#[]⟩) := by have h9 := HD.out; rw [hke, digs_zero] at h9; exact h9
      have hlt' : ¬ (0 : Int) < (k : Int) := by omega
      clear hke
      go_wp2
      go_ret
      exact ⟨by rw [markB, ← ND.out]; rfl, HB.out⟩
end Go.Proofs.YtngkiokibldfjaaGreatDoor
