import Derived.Test.YtmjolkagkeonfaaGreatDoorBase
import Derived.RegionTactic
import Derived.Test.YtmjolkagkeonfaaGreatDoorProg
import Derived.WalkLawsBesides
import Derived.WalkSpells
import Derived.OpenShut
import Derived.Laws.BitsAllLaws
namespace Go.Proofs.YtmjolkagkeonfaaGreatDoor
open Go.RowKit
/-! A region that draws its order, by an invariant: each operation is looked at once, whatever has come up ahead of it. -/
theorem count_set : ∀ {l : List Bool} {i : Nat}, l[i]? = some false → (l.set i true).countP (fun b => !b) + 1 = l.countP (fun b => !b)
  | [], i, h => by simp at h
  | b :: l, 0, h => by simp at h; subst h; simp
  | b :: l, i + 1, h => by
    have := count_set (l := l) (i := i) (by simpa using h)
    cases b <;> simp [List.set_cons_succ] at this ⊢ <;> omega
section
variable {P : Program} {md : Region.Mode} {ops : Array Oper} {Q : Exit → Act → World → Prop}
theorem listed_false {l : Array Bool} {i : Nat} (h : l.getD i true = false) : l.toList[i]? = some false := by
  obtain ⟨l⟩ := l
  rcases Nat.lt_or_ge i l.length with hi | hi
  · simp [Array.getD, hi] at h ⊢; exact h
  · simp [Array.getD, Nat.not_lt.2 hi] at h
theorem wpAny_inv (I : Array Bool → Act → World → Prop)
    (step : ∀ l a w, I l a w → ∀ i ∈ Region.ready md ops l, wpOp P ops Q i (I (l.setIfInBounds i true)) a w)
    (fin : ∀ l a w, I l a w → Region.ready md ops l = [] → Q .normal a w) :
    ∀ (fuel : Nat) (l : Array Bool) (a : Act) (w : World), l.toList.countP (fun b => !b) ≤ fuel → I l a w → wpAny P md ops Q fuel l a w
  | 0, l, a, w, hc, h => by
    have hr : Region.ready md ops l = [] := by
      cases e : Region.ready md ops l with
      | nil => rfl
      | cons i rs =>
        have hi : i ∈ Region.ready md ops l := by rw [e]; simp
        have := count_set (listed_false (mem_ready.1 hi).1)
        omega
    exact ⟨hr, fin l a w h hr⟩
  | fuel + 1, l, a, w, hc, h => by
    refine ⟨fin l a w h, fun i hi => wpOp_mono (fun a' w' h' => wpAny_inv I step fin fuel _ a' w' ?_ h') (step l a w h i hi)⟩
    have := count_set (listed_false (mem_ready.1 hi).1)
    rw [Array.toList_setIfInBounds]
    omega
/-- no operation waits for one behind it -/
def topoB (ops : Array Oper) : Bool := (List.range ops.size).all fun i => ((ops[i]?).map (·.after.all fun e => decide (e.on < i))).getD true
theorem ready_all (hT : topoB ops = true) {l : Array Bool} (hs : l.size = ops.size) (hr : Region.ready md ops l = []) : ∀ i, i < l.size → l.getD i false = true := by
  intro i
  induction i using Nat.strongRecOn with
  | ind i ih =>
    intro hi
    cases e : l.getD i false with
    | true => rfl
    | false =>
      exfalso
      have h0 : l.getD i true = false := by
        simp [Array.getD, hi] at e ⊢; exact e
      have hio : i < ops.size := by omega
      obtain ⟨o, ho⟩ : ∃ o, ops[i]? = some o := ⟨ops[i], by simp [hio]⟩
      have : i ∈ Region.ready md ops l := mem_ready.2 ⟨h0, o, ho, fun e he _ => ih e.on (by
        have := List.all_eq_true.1 hT i (List.mem_range.2 hio)
        rw [ho] at this
        simp only [Option.map_some, Option.getD_some, Array.all_eq_true] at this
        obtain ⟨k, hk, rfl⟩ := Array.getElem_of_mem he
        simpa using this k hk) (by
        have := List.all_eq_true.1 hT i (List.mem_range.2 hio)
        rw [ho] at this
        simp only [Option.map_some, Option.getD_some, Array.all_eq_true] at this
        obtain ⟨k, hk, rfl⟩ := Array.getElem_of_mem he
        have := this k hk
        simp at this
        omega)⟩
      rw [hr] at this
      cases this
/-- what has come up has all that it waits for behind it -/
def Closed (ops : Array Oper) (l : Array Bool) : Prop := ∀ i o, ops[i]? = some o → l.getD i false = true → ∀ e ∈ o.after, Region.binds .any e = true → l.getD e.on false = true
theorem getD_set_mono {l : Array Bool} {i j : Nat} (h : l.getD j false = true) : (l.setIfInBounds i true).getD j false = true := by
  obtain ⟨l⟩ := l
  simp only [Array.getD_eq_getD_getElem?, List.setIfInBounds_toArray, List.getElem?_toArray] at h ⊢
  rw [List.getElem?_set]
  split
  · rename_i e; subst e
    split
    · rfl
    · rename_i hl; simp [List.getElem?_eq_none (Nat.not_lt.1 hl)] at h
  · exact h
theorem Closed.next {l : Array Bool} (h : Closed ops l) {i : Nat} {o : Oper} (ho : ops[i]? = some o) (h1 : ∀ e ∈ o.after, Region.binds .any e = true → l.getD e.on false = true) : Closed ops (l.setIfInBounds i true) := by
  intro k ok hk hl e he hb
  by_cases hki : k = i
  · subst hki
    rw [ho] at hk; cases hk
    exact getD_set_mono (h1 e he hb)
  · refine getD_set_mono (h k ok hk ?_ e he hb)
    obtain ⟨l⟩ := l
    simp only [Array.getD_eq_getD_getElem?, List.setIfInBounds_toArray, List.getElem?_toArray] at hl ⊢
    rw [List.getElem?_set_ne (Ne.symm hki)] at hl
    exact hl
theorem wp_region_inv {id : Nat} {a : Act} {w : World} (I : Array Bool → Act → World → Prop) (hm : P.follows .mixedOrders = true) (hT : topoB ops = true)
    (hsz : ∀ l a w, I l a w → l.size = ops.size)
    (step : ∀ l a w, Closed ops l → I l a w → ∀ i, l.getD i true = false → ∀ o, ops[i]? = some o → (∀ e ∈ o.after, Region.binds .any e = true → l.getD e.on false = true) → wpOp P ops Q i (I (l.setIfInBounds i true)) a w)
    (fin : ∀ l a w, I l a w → (∀ i, i < l.size → l.getD i false = true) → Q .normal a w)
    (h : I (Array.replicate ops.size false) a w.drew) : (Code.region id ops true).wp P Q a w := by
  refine wp_region_any hm (wpAny_inv (fun l a w => Closed ops l ∧ I l a w) (fun l a w hI i hi => ?_) (fun l a w hI hr => fin l a w hI.2 (ready_all hT (hsz l a w hI.2) hr)) ops.size _ a _ ?_ ⟨?_, h⟩)
  · obtain ⟨h0, o, ho, h1⟩ := mem_ready.1 hi
    exact wpOp_mono (fun _ _ h => ⟨hI.1.next ho h1, h⟩) (step l a w hI.1 hI.2 i h0 o ho h1)
  · simp [List.countP_replicate]
  · intro k ok hk hl
    rcases Nat.lt_or_ge k ops.size with hlt | hge
    · simp [Array.getD, hlt] at hl
    · simp [Array.getD, Nat.not_lt.2 hge] at hl
end
end Go.Proofs.YtmjolkagkeonfaaGreatDoor
namespace Go.Proofs.YtmjolkagkeonfaaGreatDoor
open Go.RowKit
/-- The code lies in the old memory. -/
def CodeOk (W0 : World) (a : Option Addr) (len : Nat) : Prop :=
  len ≤ 1048576 ∧ (len = 0 ∨ ∃ b off, a = some ⟨b, off, none⟩ ∧ b < W0.heap.size ∧ ∀ i, i < len → ∃ z : Nat, z < 256 ∧ W0.cell? ⟨b, off + i, none⟩ = some (.int .u8 z))

theorem CodeOk.below {w w1 : World} {a : Option Addr} {len : Nat} (h : CodeOk w a len) (hb : Below w.heap.size w w1) : CodeOk w1 a len := by
  refine ⟨h.1, ?_⟩
  rcases h.2 with h0 | ⟨b, off, rfl, hbl, hc⟩
  · exact Or.inl h0
  · refine Or.inr ⟨b, off, rfl, Nat.lt_of_lt_of_le hbl hb.size, fun i hi => ?_⟩
    obtain ⟨z, hz, hcell⟩ := hc i hi
    exact ⟨z, hz, (hb.cell (p := ⟨b, off + i, none⟩) hbl).trans hcell⟩
theorem codeOk_of (w : World) (a : Option Addr) (len cap : Nat) (zs : List Int) (h : IsRow .u8 w a len cap zs) (hl : len ≤ 1048576) : CodeOk w a len := by
  refine ⟨hl, ?_⟩
  by_cases h0 : len = 0
  · exact Or.inl h0
  · rcases h with ⟨_, h1, _⟩ | ⟨x, rfl, h1, h2, h3, hcell, hwf⟩
    · exact absurd h1 h0
    · right
      obtain ⟨b, off, spot⟩ := x
      have hc := hcell 0 (by omega)
      have hspot : spot = none := by simpa [Addr.add] using World.cell?_spot hc
      subst hspot
      have hadd : ∀ i, (⟨b, off, none⟩ : Addr).add i = ⟨b, off + i, none⟩ := by intro i; unfold Addr.add; split <;> simp_all
      refine ⟨b, off, rfl, ?_, ?_⟩
      · have := World.block_lt_of_cell? w _ hc; rw [hadd] at this; exact this
      · intro i hi
        have hci := hcell i (by omega)
        rw [hadd] at hci
        have hm : zs.getD i 0 ∈ zs := by rw [List.getD_eq_getElem?_getD, List.getElem?_eq_getElem (by omega)]; simp
        have hb := bounds_u8 (hwf _ hm)
        obtain ⟨z, hz⟩ := Int.eq_ofNat_of_zero_le hb.1
        rw [hz] at hci hb
        exact ⟨z, by omega, hci⟩

end Go.Proofs.YtmjolkagkeonfaaGreatDoor
namespace Go.Proofs.YtmjolkagkeonfaaGreatDoor
open Go.RowKit
theorem Tryz.info5 : (Tryz.prog.info? 5).map (fun i => (i.zero, i.size, i.bytes)) = some (some (.int .u8 0), 1, 1) := by kernel_rfl

end Go.Proofs.YtmjolkagkeonfaaGreatDoor
