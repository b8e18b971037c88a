import Derived.Test.YtmjolkagkeonfaaGreatDoorG1
import Derived.Test.YtmjolkagkeonfaaGreatDoorDrawKeyB
namespace Go.Proofs.YtmjolkagkeonfaaGreatDoor
open Go.RowKit
/-! What the draws want: slots that may have come up, rows that stay. -/
def sel (b : Bool) (v o : Value) : Value := cond b v o
theorem rowF {w w' : World} {b c : Nat} {t : TypeId} {cs : Array Value} (h : RowAt w b t cs) (hg : w.grownBy w' (some c)) (hn : c < b) : RowAt w' b t cs := (hg.block b h.lt (fun e => by cases e; omega)).trans h
theorem grown_setCellF (w : World) (b k : Nat) (v : Value) : w.grownBy (w.setCell ⟨b, k, none⟩ v) (some b) :=
  ⟨rfl, rfl, rfl, by simp, fun j _ hj => heap_setCell_other w ⟨b, k, none⟩ j v (fun e => hj (by rw [e]))⟩
theorem Src.set {W0 w : World} {c : Nat} {a : Option Addr} {len cap p : Nat} (h : Src W0 w c a len cap p) {b : Nat} (hb : c < b) (k : Nat) (v : Value) : Src W0 (w.setCell ⟨b, k, none⟩ v) c a len cap p :=
  h.far (grown_setCellF w b k v) (fun e => by cases e; omega) (fun g hg => by cases hg; have := h.2.2.2.2; omega)
/-- what grew from X on is not touched by a store into a block that X had not -/
theorem grown_far {X w : World} {r : Option Nat} (h : X.grownBy w r) {b : Nat} (hb : X.heap.size ≤ b) (k : Nat) (v : Value) : X.grownBy (w.setCell ⟨b, k, none⟩ v) r :=
  ⟨h.os, h.tape, h.output, by simp [h.size], fun j hj hr => (heap_setCell_other w ⟨b, k, none⟩ j v (by simp; omega)).trans (h.block j hj hr)⟩
theorem grown_al {X w : World} {r : Option Nat} (h : X.grownBy w r) (o : Obj) : X.grownBy (w.alloc o) r := grown_trans h (World.grownBy_alloc w o r)
theorem Src.belowD {W0 w w' : World} {c : Nat} {a : Option Addr} {len cap p : Nat} (h : Src W0 w c a len cap p) (hb : Below w.heap.size w w') : Src W0 w' c a len cap p :=
  h.far (below_grown hb none) (by simp) (by intro g hg; cases hg)
end Go.Proofs.YtmjolkagkeonfaaGreatDoor
namespace Go.Proofs.YtmjolkagkeonfaaGreatDoor
open Go.RowKit
/-! wp_region_inv for regions some of whose edges bind one order alone (late stores). -/
section
variable {P : Program} {ops : Array Oper} {Q : Exit → Act → World → Prop}
end
end Go.Proofs.YtmjolkagkeonfaaGreatDoor
namespace Go.Proofs.YtmjolkagkeonfaaGreatDoor
open Go.RowKit
/-! What a closed array of Bools says (for anyreg.py's short form). -/
section
variable {ops : Array Oper} {l : Array Bool} {o : Oper} {j : Nat}
def edgeB (o : Oper) (j : Nat) : Bool := o.after.toList.any fun e => e.on == j && Region.binds .any e
theorem clO (h1 : ∀ e ∈ o.after, Region.binds .any e = true → l.getD e.on false = true) (h : edgeB o j = true) : l.getD j false = true := by
  unfold edgeB at h
  obtain ⟨e, he, hb⟩ := List.any_eq_true.1 h
  rw [Bool.and_eq_true, beq_iff_eq] at hb
  have := h1 e (by simpa using he) hb.2
  rw [hb.1] at this
  exact this
theorem clP (hC : Closed ops l) (k : Nat) (ho : ops[k]? = some o) (hk : l.getD k false = true) (h : edgeB o j = true) : l.getD j false = true := clO (hC k o ho hk) h
theorem clN (hC : Closed ops l) (k : Nat) (ho : ops[k]? = some o) (hj : l.getD j false = false) (h : edgeB o j = true) : l.getD k false = false := by
  cases e : l.getD k false with
  | false => rfl
  | true =>
    have := clP hC k ho e h
    rw [hj] at this
    cases this
/-- a word on each of some numbers -/
def AllL (p : Nat → Prop) : List Nat → Prop
  | [] => True
  | k :: r => p k ∧ AllL p r
/-- a way: (k, j): number k waits for number j -/
def wayN (ops : Array Oper) (from0 : Nat) : List Nat → List (Nat × Nat) → Bool
  | _, [] => true
  | known, (k, j) :: r => (known.contains j || j == from0) && (match ops[k]? with | some o => edgeB o j | none => false) && wayN ops from0 (k :: known) r
theorem wayN_all (hC : Closed ops l) {i : Nat} (h0 : l.getD i false = false) : ∀ (ps : List (Nat × Nat)) (known : List Nat), (∀ k ∈ known, l.getD k false = false) → wayN ops i known ps = true → AllL (fun k => l.getD k false = false) (ps.map (·.1))
  | [], _, _, _ => trivial
  | (k, j) :: r, known, hk, h => by
    unfold wayN at h
    rw [Bool.and_eq_true, Bool.and_eq_true, Bool.or_eq_true] at h
    obtain ⟨⟨h1, h2⟩, h3⟩ := h
    have hj : l.getD j false = false := by
      rcases h1 with h1 | h1
      · exact hk j (by simpa using h1)
      · rw [beq_iff_eq] at h1; rw [h1]; exact h0
    have hkf : l.getD k false = false := by
      cases ho : ops[k]? with
      | none => rw [ho] at h2; cases h2
      | some o => rw [ho] at h2; exact clN hC k ho hj h2
    exact ⟨hkf, wayN_all hC h0 r (k :: known) (fun q hq => by
      rcases List.mem_cons.1 hq with e | e
      · rw [e]; exact hkf
      · exact hk q e) h3⟩
/-- a way upwards: (j, k): number k, that has come up, waited for number j -/
def wayP (ops : Array Oper) (o : Oper) : List Nat → List (Nat × Option Nat) → Bool
  | _, [] => true
  | known, (j, none) :: r => edgeB o j && wayP ops o (j :: known) r
  | known, (j, some k) :: r => known.contains k && (match ops[k]? with | some q => edgeB q j | none => false) && wayP ops o (j :: known) r
theorem wayP_all (hC : Closed ops l) (h1 : ∀ e ∈ o.after, Region.binds .any e = true → l.getD e.on false = true) : ∀ (ps : List (Nat × Option Nat)) (known : List Nat), (∀ k ∈ known, l.getD k false = true) → wayP ops o known ps = true → AllL (fun k => l.getD k false = true) (ps.map (·.1))
  | [], _, _, _ => trivial
  | (j, none) :: r, known, hk, h => by
    unfold wayP at h
    rw [Bool.and_eq_true] at h
    have hj := clO h1 h.1
    exact ⟨hj, wayP_all hC h1 r (j :: known) (fun q hq => by
      rcases List.mem_cons.1 hq with e | e
      · rw [e]; exact hj
      · exact hk q e) h.2⟩
  | (j, some k) :: r, known, hk, h => by
    unfold wayP at h
    rw [Bool.and_eq_true, Bool.and_eq_true] at h
    obtain ⟨⟨h2, h3⟩, h4⟩ := h
    have hj : l.getD j false = true := by
      cases ho : ops[k]? with
      | none => rw [ho] at h3; cases h3
      | some q => rw [ho] at h3; exact clP hC k ho (hk k (by simpa using h2)) h3
    exact ⟨hj, wayP_all hC h1 r (j :: known) (fun q hq => by
      rcases List.mem_cons.1 hq with e | e
      · rw [e]; exact hj
      · exact hk q e) h4⟩
theorem allT (h : ∀ i, i < l.size → l.getD i false = true) : ∀ (ks : List Nat), ks.all (fun k => decide (k < l.size)) = true → AllL (fun k => l.getD k false = true) ks
  | [], _ => trivial
  | k :: r, hk => by
    rw [List.all_cons, Bool.and_eq_true] at hk
    exact ⟨h k (of_decide_eq_true hk.1), allT h r hk.2⟩
theorem nk {p : Nat → Prop} : ∀ k ∈ ([] : List Nat), p k := fun _ h => by cases h
end
end Go.Proofs.YtmjolkagkeonfaaGreatDoor
namespace Go.Proofs.YtmjolkagkeonfaaGreatDoor
open Go.RowKit
theorem sel_t (v o : Value) : sel true v o = v := rfl
theorem sel_f (v o : Value) : sel false v o = o := rfl
end Go.Proofs.YtmjolkagkeonfaaGreatDoor
