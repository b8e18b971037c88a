import Derived.RangeFuncNested
import Derived.RangeFuncBound
import Derived.RangeFuncCalls
import Derived.RangeFuncLeaves
import Derived.WalkKit
namespace Go.Proofs.YtcbmgpdpjagaoaaGreat
open Go.RowKit
def SeqR (F : Fence) (n : Nat) (P : Program) (g : Nat) (lb : Array Value) (N : Nat) (enc : Nat → Array Value) (R Kp : World → World → Prop) (w : World) : Prop :=
 ∀ (l : Nat) (J Jx : Nat → World → Prop) (W : World), Below w.heap.size w W → (∀ k A B, J k A → R A B → J k B) → (∀ k A B, Jx k A → R A B → Jx k B) →
  (∀ k W1, k < N → J k W1 → YieldAt F (n - 1) P l (enc k) W1 fun e W' => (e = .returned (.bool true) ∧ J (k + 1) W' ∧ Kp W1 W') ∨ (e = .returned (.bool false) ∧ Jx (k + 1) W')) →
  J 0 W → CallsIn F n P g (#[.func (.yield l) #[] #[]] ++ lb) W fun e W' => (∃ v, e = .returned v) ∧ (J N W' ∨ ∃ k, k ≤ N ∧ Jx k W')
def postR (B : Nat) (Kp : World → World → Prop) (I : Nat → World → Prop) (Ix : Code → Nat → World → Prop) (k : Nat) (W : World) : Exit → Act → World → Prop
 | .normal, _, W' => KeepsFrom B W W' ∧ Kp W W' ∧ I k W'
 | .ret, _, W' => KeepsFrom B W W' ∧ Ix .ret k W'
 | .exit id, _, W' => KeepsFrom B W W' ∧ Ix (.exit id) k W'
 | .goto t, _, W' => KeepsFrom B W W' ∧ Ix (.goto t) k W'
 | .panic _, _, _ => False
 | .outgrown, _, _ => False
structure Books (B : Nat) (r : Loop) (W : World) : Prop where
 rc : W.heap[B + 1]? = some (.loop r)
 df : W.heap[B]? = some (.deferred (some []))
theorem Books.keeps {B : Nat} {r : Loop} {W W' : World} (h : Books B r W) (k : KeepsFrom B W W') : Books B r W' := ⟨k.same _ _ (by omega) h.rc rfl, k.same _ _ (Nat.le_refl _) h.df rfl⟩
theorem Books.put {B : Nat} {r : Loop} {W : World} (h : Books B r W) (r' : Loop) : Books B r' (W.putObj (B + 1) (.loop r')) :=
 ⟨World.putObj_heap_same (Array.getElem?_eq_some_iff.1 h.rc).1, (World.putObj_heap_other (by omega)).trans h.df⟩
theorem own_put {B : Nat} {r : Loop} {W : World} {I : Nat → World → Prop} (hI : OwnFrom B I) {k : Nat} (hi : I k W) (h : Books B r W) (r' : Loop) : I k (W.putObj (B + 1) (.loop r')) := hI.putObj _ hi (by omega) h.rc rfl
theorem wpIn_rangeR {F : Fence} {n : Nat} {P : Program} {g : Operand} {ps : Array Tmp} {assign body : Code} {Q : Exit → Act → World → Prop} {a : Act} {w : World}
 (hro : F.round = none) (h1 : 1 ≤ n) {gf : Nat} {lb : Array Value} (hg : a.eval g = .func (.func gf) #[] lb) (hFg : F.fn gf) (eg : ∀ args w, (callFunc gf args).run P w = .ok (.enter gf args) w)
 {N : Nat} {enc : Nat → Array Value} {R Kp : World → World → Prop} {w0 : World} (hseq : SeqR F (n - 1) P gf lb N enc R Kp w0) (hb0 : Below w0.heap.size w0 w)
 (hKt : ∀ {A B C : World}, Kp A B → Kp B C → Kp A C) (hKb : ∀ (W : World) (l : Nat) (o o' : Obj), w.heap.size ≤ l → W.heap[l]? = some o → o.isCells = false → o.isWalk = false → Kp W (W.putObj l o'))
 (hRk : ∀ A B, R A B → KeepsFrom w.heap.size A B) (hps : ∀ k, (enc k).size = ps.size)
 (I : Nat → World → Prop) (Ix : Code → Nat → World → Prop) (hI : OwnFrom w.heap.size I) (hIx : ∀ c, OwnFrom w.heap.size (Ix c))
 (hIR : ∀ k A B, I k A → R A B → I k B) (hIxR : ∀ c k A B, Ix c k A → R A B → Ix c k B) (h0 : I 0 w)
 (Ax : Nat → Act → World → Prop) (hAx : ∀ k a', OwnFrom w.heap.size (fun (_ : Unit) W => Ax k a' W))
 (hassign : ∀ (l k : Nat) (W : World) (K : Act → World → Prop), k < N → I k W → (∀ a' W', KeepsFrom w.heap.size W W' → Kp W W' → I k W' → Ax k a' W' → K a' W') →
   assign.wpIn (F.inRound l) (n - 1 - 1) P (Exit.then K (fun _ _ _ => False)) { tmps := (ps.zip (enc k)).foldl (fun t (p, v) => t.setIfInBounds p v) a.tmps, defers := [] } W)
 (hbody : ∀ (l k : Nat) (a' : Act) (W : World), w.heap.size ≤ l → (∃ r, W.heap[l]? = some (.loop r)) → k < N → I k W → Ax k a' W → body.wpIn (F.inRound l) (n - 1 - 1) P (postR w.heap.size Kp I Ix (k + 1) W) a' W)
 (hdone : ∀ (D : Nat) (W : World), w.heap.size ≤ D → I N W → W.heap[D]? = some (.deferred (some [])) → Q .normal { a with defers := { target := .collected D, args := #[] } :: a.defers } W)
 (hstop : ∀ (D : Nat) (c : Code) (k : Nat) (W : World), w.heap.size ≤ D → k ≤ N → Ix c k W → W.heap[D]? = some (.deferred (some [])) → c.wpIn F n P Q { a with defers := { target := .collected D, args := #[] } :: a.defers } W) :
 (Code.rangeFunc g ps assign body).wpIn F n P Q a w := by
 refine wpIn_rangeFunc fun fn hfn => ?_; rw [hro]
 let lp : LoopState → Option Code → Loop := fun st pe => { state := st, pending := pe, fn, tmps := a.tmps, params := ps, assign, body, defers := w.heap.size }
 let W1 := (w.alloc (.deferred (some []))).alloc (.loop (lp .ready none))
 have bk : Books w.heap.size (lp .ready none) W1 := by
  refine ⟨?_, (Below.heap_alloc _ _ _ (by simp)).trans (World.alloc_heap_new w _)⟩; have := World.alloc_heap_new (w.alloc (.deferred (some []))) (.loop (lp .ready none)); rwa [World.size_alloc] at this
 have hI1 : I 0 W1 := hI.alloc _ (hI.alloc _ h0); have hb1 : Below w0.heap.size w0 W1 := hb0.trans ((((Below.refl _ w).alloc (Nat.le_refl _) _).alloc (by simp) _).mono hb0.size); refine ⟨w.heap.size + 1, [{ target := .collected w.heap.size, args := #[] }], W1, { target := .fn (.func gf) lb, args := #[.func (.yield (w.heap.size + 1)) #[] #[]] }, W1, gf, #[.func (.yield (w.heap.size + 1)) #[] #[]] ++ lb, W1, run_enterLoop_outer _ _ _ _ _, ?_, ?_, ?_, fun _ => h1, ?_⟩
 · simp only [resolve, hg]
   simp [go_sem]
 · intro f' hf'
   simp [Target.leads] at hf'
   subst hf'; exact hFg
 · simp [invoke, go_sem, eg]
 have round : ∀ k W, k < N → (I k W ∧ Books w.heap.size (lp .ready none) W) → YieldAt F (n - 1 - 1) P (w.heap.size + 1) (enc k) W fun e W' =>
  (e = .returned (.bool true) ∧ (I (k + 1) W' ∧ Books w.heap.size (lp .ready none) W') ∧ Kp W W') ∨ (e = .returned (.bool false) ∧ ∃ c, Ix c (k + 1) W' ∧ Books w.heap.size (lp .done (some c)) W') := by
  rintro k W hk ⟨hi, hw⟩
  refine ⟨fn, _, assign, body, run_yield (P := P) (args := enc k) hw.rc (hps k), roundIn_of_wpIn hfn (hassign _ k W _ hk hi ?_)⟩; intro a' V hkf hkp hiV hax; have hv := hw.keeps hkf; refine ⟨_, run_beginRound hv.rc rfl, ?_⟩; have hv2 := hv.put (lp .busy none); have kb : Kp V (V.putObj (w.heap.size + 1) (.loop (lp .busy none))) := hKb _ _ _ _ (by omega) hv.rc rfl rfl; refine wpIn_mono (hbody _ k a' _ (by omega) ⟨_, hv2.rc⟩ hk (own_put hI hiV hv _) ((hAx k a').putObj (s := ()) _ hax (by omega) hv.rc rfl)) ?_; intro e a3 X hp
  cases e with
  | normal =>
   have hx := hv2.keeps hp.1; exact ⟨_, _, run_endRound none hx.rc, .inl ⟨rfl, ⟨own_put hI hp.2.2 hx _, hx.put _⟩, hKt hkp (hKt (hKt kb hp.2.1) (hKb _ _ _ _ (by omega) hx.rc rfl rfl))⟩⟩
  | ret =>
   have hx := hv2.keeps hp.1; exact ⟨_, _, run_endRound (some .ret) hx.rc, .inr ⟨rfl, .ret, own_put (hIx _) hp.2 hx _, hx.put _⟩⟩
  | exit id =>
   have hx := hv2.keeps hp.1; exact ⟨_, _, run_endRound (some (.exit id)) hx.rc, .inr ⟨rfl, .exit id, own_put (hIx _) hp.2 hx _, hx.put _⟩⟩
  | goto t =>
   have hx := hv2.keeps hp.1; exact ⟨_, _, run_endRound (some (.goto t)) hx.rc, .inr ⟨rfl, .goto t, own_put (hIx _) hp.2 hx _, hx.put _⟩⟩
  | panic ch => exact hp.elim
  | outgrown => exact hp.elim
 refine (hseq (w.heap.size + 1) (fun k W => I k W ∧ Books w.heap.size (lp .ready none) W) (fun k W => ∃ c, Ix c k W ∧ Books w.heap.size (lp .done (some c)) W) W1 hb1
  (fun k A B h hr => ⟨hIR k A B h.1 hr, h.2.keeps (hRk A B hr)⟩) (fun k A B ⟨c, h⟩ hr => ⟨c, hIxR c k A B h.1 hr, h.2.keeps (hRk A B hr)⟩) round ⟨hI1, bk⟩).mono ?_
 rintro e X ⟨⟨v, rfl⟩, h⟩
 rcases h with ⟨hi, hx⟩ | ⟨k, hk, c, hi, hx⟩
 · exact ⟨none, _, run_endLoop hx.rc (by simp [lp]), hdone _ _ (Nat.le_refl _) (own_put hI hi hx _) ((hx.put _).df)⟩
 · exact ⟨some c, _, run_endLoop hx.rc (by simp [lp]), hstop _ c k _ (Nat.le_refl _) hk (own_put (hIx c) hi hx _) ((hx.put _).df)⟩
end Go.Proofs.YtcbmgpdpjagaoaaGreat
