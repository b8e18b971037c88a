import Derived.Test.YtngkiokibldfjaaGreatDoorBase
import Derived.RegionTactic
namespace Go.Proofs.YtngkiokibldfjaaGreatDoor
open Go.RowKit
/-! A region that draws its order, by an invariant: each operation is looked at once, whatever has come up ahead of it. -/
theorem count_set : ∀ {l : List Bool} {i : Nat}, l[i]? = some false → (l.set i true).countP (fun b => !b) + 1 = l.countP (fun b => !b)
  | [], i, h => by simp at h
  | b :: l, 0, h => by simp at h; subst h; simp
  | b :: l, i + 1, h => by
    have := count_set (l := l) (i := i) (by simpa using h)
    cases b <;> simp [List.set_cons_succ] at this ⊢ <;> omega
section
variable {P : Program} {md : Region.Mode} {ops : Array Oper} {Q : Exit → Act → World → Prop}
theorem listed_false {l : Array Bool} {i : Nat} (h : l.getD i true = false) : l.toList[i]? = some false := by
  obtain ⟨l⟩ := l
  rcases Nat.lt_or_ge i l.length with hi | hi
  · simp [Array.getD, hi] at h ⊢; exact h
  · simp [Array.getD, Nat.not_lt.2 hi] at h
theorem wpAny_inv (I : Array Bool → Act → World → Prop)
    (step : ∀ l a w, I l a w → ∀ i ∈ Region.ready md ops l, wpOp P ops Q i (I (l.setIfInBounds i true)) a w)
    (fin : ∀ l a w, I l a w → Region.ready md ops l = [] → Q .normal a w) :
    ∀ (fuel : Nat) (l : Array Bool) (a : Act) (w : World), l.toList.countP (fun b => !b) ≤ fuel → I l a w → wpAny P md ops Q fuel l a w
  | 0, l, a, w, hc, h => by
    have hr : Region.ready md ops l = [] := by
      cases e : Region.ready md ops l with
      | nil => rfl
      | cons i rs =>
        have hi : i ∈ Region.ready md ops l := by rw [e]; simp
        have := count_set (listed_false (mem_ready.1 hi).1)
        omega
    exact ⟨hr, fin l a w h hr⟩
  | fuel + 1, l, a, w, hc, h => by
    refine ⟨fin l a w h, fun i hi => wpOp_mono (fun a' w' h' => wpAny_inv I step fin fuel _ a' w' ?_ h') (step l a w h i hi)⟩
    have := count_set (listed_false (mem_ready.1 hi).1)
    rw [Array.toList_setIfInBounds]
    omega
/-- no operation waits for one behind it -/
def topoB (ops : Array Oper) : Bool := (List.range ops.size).all fun i => ((ops[i]?).map (·.after.all fun e => decide (e.on < i))).getD true
theorem ready_all (hT : topoB ops = true) {l : Array Bool} (hs : l.size = ops.size) (hr : Region.ready md ops l = []) : ∀ i, i < l.size → l.getD i false = true := by
  intro i
  induction i using Nat.strongRecOn with
  | ind i ih =>
    intro hi
    cases e : l.getD i false with
    | true => rfl
    | false =>
      exfalso
      have h0 : l.getD i true = false := by
        simp [Array.getD, hi] at e ⊢; exact e
      have hio : i < ops.size := by omega
      obtain ⟨o, ho⟩ : ∃ o, ops[i]? = some o := ⟨ops[i], by simp [hio]⟩
      have : i ∈ Region.ready md ops l := mem_ready.2 ⟨h0, o, ho, fun e he _ => ih e.on (by
        have := List.all_eq_true.1 hT i (List.mem_range.2 hio)
        rw [ho] at this
        simp only [Option.map_some, Option.getD_some, Array.all_eq_true] at this
        obtain ⟨k, hk, rfl⟩ := Array.getElem_of_mem he
        simpa using this k hk) (by
        have := List.all_eq_true.1 hT i (List.mem_range.2 hio)
        rw [ho] at this
        simp only [Option.map_some, Option.getD_some, Array.all_eq_true] at this
        obtain ⟨k, hk, rfl⟩ := Array.getElem_of_mem he
        have := this k hk
        simp at this
        omega)⟩
      rw [hr] at this
      cases this
/-- what has come up has all that it waits for behind it -/
def Closed (ops : Array Oper) (l : Array Bool) : Prop := ∀ i o, ops[i]? = some o → l.getD i false = true → ∀ e ∈ o.after, Region.binds .any e = true → l.getD e.on false = true
theorem getD_set_mono {l : Array Bool} {i j : Nat} (h : l.getD j false = true) : (l.setIfInBounds i true).getD j false = true := by
  obtain ⟨l⟩ := l
  simp only [Array.getD_eq_getD_getElem?, List.setIfInBounds_toArray, List.getElem?_toArray] at h ⊢
  rw [List.getElem?_set]
  split
  · rename_i e; subst e
    split
    · rfl
    · rename_i hl; simp [List.getElem?_eq_none (Nat.not_lt.1 hl)] at h
  · exact h
theorem Closed.next {l : Array Bool} (h : Closed ops l) {i : Nat} {o : Oper} (ho : ops[i]? = some o) (h1 : ∀ e ∈ o.after, Region.binds .any e = true → l.getD e.on false = true) : Closed ops (l.setIfInBounds i true) := by
  intro k ok hk hl e he hb
  by_cases hki : k = i
  · subst hki
    rw [ho] at hk; cases hk
    exact getD_set_mono (h1 e he hb)
  · refine getD_set_mono (h k ok hk ?_ e he hb)
    obtain ⟨l⟩ := l
    simp only [Array.getD_eq_getD_getElem?, List.setIfInBounds_toArray, List.getElem?_toArray] at hl ⊢
    rw [List.getElem?_set_ne (Ne.symm hki)] at hl
    exact hl
theorem wp_region_inv {id : Nat} {a : Act} {w : World} (I : Array Bool → Act → World → Prop) (hm : P.follows .mixedOrders = true) (hT : topoB ops = true)
    (hsz : ∀ l a w, I l a w → l.size = ops.size)
    (step : ∀ l a w, Closed ops l → I l a w → ∀ i, l.getD i true = false → ∀ o, ops[i]? = some o → (∀ e ∈ o.after, Region.binds .any e = true → l.getD e.on false = true) → wpOp P ops Q i (I (l.setIfInBounds i true)) a w)
    (fin : ∀ l a w, I l a w → (∀ i, i < l.size → l.getD i false = true) → Q .normal a w)
    (h : I (Array.replicate ops.size false) a w.drew) : (Code.region id ops true).wp P Q a w := by
  refine wp_region_any hm (wpAny_inv (fun l a w => Closed ops l ∧ I l a w) (fun l a w hI i hi => ?_) (fun l a w hI hr => fin l a w hI.2 (ready_all hT (hsz l a w hI.2) hr)) ops.size _ a _ ?_ ⟨?_, h⟩)
  · obtain ⟨h0, o, ho, h1⟩ := mem_ready.1 hi
    exact wpOp_mono (fun _ _ h => ⟨hI.1.next ho h1, h⟩) (step l a w hI.1 hI.2 i h0 o ho h1)
  · simp [List.countP_replicate]
  · intro k ok hk hl
    rcases Nat.lt_or_ge k ops.size with hlt | hge
    · simp [Array.getD, hlt] at hl
    · simp [Array.getD, Nat.not_lt.2 hge] at hl
end
end Go.Proofs.YtngkiokibldfjaaGreatDoor
namespace Go.Proofs.YtngkiokibldfjaaGreatDoor
open Go.RowKit
/-! wp_region_inv for regions some of whose edges bind one order alone (late stores). -/
section
variable {P : Program} {ops : Array Oper} {Q : Exit → Act → World → Prop}
def topoG (ops : Array Oper) : Bool := (List.range ops.size).all fun i => ((ops[i]?).map (·.after.all fun e => !(Region.binds .any e) || decide (e.on < i))).getD true
theorem ready_allG (hT : topoG ops = true) {l : Array Bool} (hs : l.size = ops.size) (hr : Region.ready .any ops l = []) : ∀ i, i < l.size → l.getD i false = true := by
  intro i
  induction i using Nat.strongRecOn with
  | ind i ih =>
    intro hi
    cases e : l.getD i false with
    | true => rfl
    | false =>
      exfalso
      have h0 : l.getD i true = false := by
        simp [Array.getD, hi] at e ⊢; exact e
      have hio : i < ops.size := by omega
      obtain ⟨o, ho⟩ : ∃ o, ops[i]? = some o := ⟨ops[i], by simp [hio]⟩
      have : i ∈ Region.ready .any ops l := mem_ready.2 ⟨h0, o, ho, fun e he hb => by
        have h9 : e.on < i := by
          have := List.all_eq_true.1 hT i (List.mem_range.2 hio)
          rw [ho] at this
          simp only [Option.map_some, Option.getD_some, Array.all_eq_true] at this
          obtain ⟨k, hk, rfl⟩ := Array.getElem_of_mem he
          have := this k hk
          rw [hb] at this
          simpa using this
        exact ih e.on h9 (by omega)⟩
      rw [hr] at this
      cases this
theorem wp_region_invG {id : Nat} {a : Act} {w : World} (I : Array Bool → Act → World → Prop) (hm : P.follows .mixedOrders = true) (hT : topoG ops = true)
    (hsz : ∀ l a w, I l a w → l.size = ops.size)
    (step : ∀ l a w, Closed ops l → I l a w → ∀ i, l.getD i true = false → ∀ o, ops[i]? = some o → (∀ e ∈ o.after, Region.binds .any e = true → l.getD e.on false = true) → wpOp P ops Q i (I (l.setIfInBounds i true)) a w)
    (fin : ∀ l a w, I l a w → (∀ i, i < l.size → l.getD i false = true) → Q .normal a w)
    (h : I (Array.replicate ops.size false) a w.drew) : (Code.region id ops true).wp P Q a w := by
  refine wp_region_any hm (wpAny_inv (fun l a w => Closed ops l ∧ I l a w) (fun l a w hI i hi => ?_) (fun l a w hI hr => fin l a w hI.2 (ready_allG hT (hsz l a w hI.2) hr)) ops.size _ a _ ?_ ⟨?_, h⟩)
  · obtain ⟨h0, o, ho, h1⟩ := mem_ready.1 hi
    exact wpOp_mono (fun _ _ h => ⟨hI.1.next ho h1, h⟩) (step l a w hI.1 hI.2 i h0 o ho h1)
  · simp [List.countP_replicate]
  · intro k ok hk hl
    rcases Nat.lt_or_ge k ops.size with hlt | hge
    · simp [Array.getD, hlt] at hl
    · simp [Array.getD, Nat.not_lt.2 hge] at hl
end
end Go.Proofs.YtngkiokibldfjaaGreatDoor
namespace Go.Proofs.YtngkiokibldfjaaGreatDoor
open Go.RowKit
/-! What a closed array of Bools says (for anyreg.py's short form). -/
section
variable {ops : Array Oper} {l : Array Bool} {o : Oper} {j : Nat}
def edgeB (o : Oper) (j : Nat) : Bool := o.after.toList.any fun e => e.on == j && Region.binds .any e
theorem clO (h1 : ∀ e ∈ o.after, Region.binds .any e = true → l.getD e.on false = true) (h : edgeB o j = true) : l.getD j false = true := by
  unfold edgeB at h
  obtain ⟨e, he, hb⟩ := List.any_eq_true.1 h
  rw [Bool.and_eq_true, beq_iff_eq] at hb
  have := h1 e (by simpa using he) hb.2
  rw [hb.1] at this
  exact this
theorem clP (hC : Closed ops l) (k : Nat) (ho : ops[k]? = some o) (hk : l.getD k false = true) (h : edgeB o j = true) : l.getD j false = true := clO (hC k o ho hk) h
theorem clN (hC : Closed ops l) (k : Nat) (ho : ops[k]? = some o) (hj : l.getD j false = false) (h : edgeB o j = true) : l.getD k false = false := by
  cases e : l.getD k false with
  | false => rfl
  | true =>
    have := clP hC k ho e h
    rw [hj] at this
    cases this
/-- a word on each of some numbers -/
def AllL (p : Nat → Prop) : List Nat → Prop
  | [] => True
  | k :: r => p k ∧ AllL p r
/-- a way: (k, j): number k waits for number j -/
def wayN (ops : Array Oper) (from0 : Nat) : List Nat → List (Nat × Nat) → Bool
  | _, [] => true
  | known, (k, j) :: r => (known.contains j || j == from0) && (match ops[k]? with | some o => edgeB o j | none => false) && wayN ops from0 (k :: known) r
theorem wayN_all (hC : Closed ops l) {i : Nat} (h0 : l.getD i false = false) : ∀ (ps : List (Nat × Nat)) (known : List Nat), (∀ k ∈ known, l.getD k false = false) → wayN ops i known ps = true → AllL (fun k => l.getD k false = false) (ps.map (·.1))
  | [], _, _, _ => trivial
  | (k, j) :: r, known, hk, h => by
    unfold wayN at h
    rw [Bool.and_eq_true, Bool.and_eq_true, Bool.or_eq_true] at h
    obtain ⟨⟨h1, h2⟩, h3⟩ := h
    have hj : l.getD j false = false := by
      rcases h1 with h1 | h1
      · exact hk j (by simpa using h1)
      · rw [beq_iff_eq] at h1; rw [h1]; exact h0
    have hkf : l.getD k false = false := by
      cases ho : ops[k]? with
      | none => rw [ho] at h2; cases h2
      | some o => rw [ho] at h2; exact clN hC k ho hj h2
    exact ⟨hkf, wayN_all hC h0 r (k :: known) (fun q hq => by
      rcases List.mem_cons.1 hq with e | e
      · rw [e]; exact hkf
      · exact hk q e) h3⟩
/-- a way upwards: (j, k): number k, that has come up, waited for number j -/
def wayP (ops : Array Oper) (o : Oper) : List Nat → List (Nat × Option Nat) → Bool
  | _, [] => true
  | known, (j, none) :: r => edgeB o j && wayP ops o (j :: known) r
  | known, (j, some k) :: r => known.contains k && (match ops[k]? with | some q => edgeB q j | none => false) && wayP ops o (j :: known) r
theorem wayP_all (hC : Closed ops l) (h1 : ∀ e ∈ o.after, Region.binds .any e = true → l.getD e.on false = true) : ∀ (ps : List (Nat × Option Nat)) (known : List Nat), (∀ k ∈ known, l.getD k false = true) → wayP ops o known ps = true → AllL (fun k => l.getD k false = true) (ps.map (·.1))
  | [], _, _, _ => trivial
  | (j, none) :: r, known, hk, h => by
    unfold wayP at h
    rw [Bool.and_eq_true] at h
    have hj := clO h1 h.1
    exact ⟨hj, wayP_all hC h1 r (j :: known) (fun q hq => by
      rcases List.mem_cons.1 hq with e | e
      · rw [e]; exact hj
      · exact hk q e) h.2⟩
  | (j, some k) :: r, known, hk, h => by
    unfold wayP at h
    rw [Bool.and_eq_true, Bool.and_eq_true] at h
    obtain ⟨⟨h2, h3⟩, h4⟩ := h
    have hj : l.getD j false = true := by
      cases ho : ops[k]? with
      | none => rw [ho] at h3; cases h3
      | some q => rw [ho] at h3; exact clP hC k ho (hk k (by simpa using h2)) h3
    exact ⟨hj, wayP_all hC h1 r (j :: known) (fun q hq => by
      rcases List.mem_cons.1 hq with e | e
      · rw [e]; exact hj
      · exact hk q e) h4⟩
theorem allT (h : ∀ i, i < l.size → l.getD i false = true) : ∀ (ks : List Nat), ks.all (fun k => decide (k < l.size)) = true → AllL (fun k => l.getD k false = true) ks
  | [], _ => trivial
  | k :: r, hk => by
    rw [List.all_cons, Bool.and_eq_true] at hk
    exact ⟨h k (of_decide_eq_true hk.1), allT h r hk.2⟩
theorem nk {p : Nat → Prop} : ∀ k ∈ ([] : List Nat), p k := fun _ h => by cases h
theorem getD_tf {i : Nat} (h : l.getD i true = false) : l.getD i false = false := by
  rcases Nat.lt_or_ge i l.size with q | q
  · simp [Array.getD, q] at h ⊢; exact h
  · simp [Array.getD, Nat.not_lt.2 q] at h
end
end Go.Proofs.YtngkiokibldfjaaGreatDoor
