import Derived.Test.YtekdphfifdfmbaaQuU
import Derived.Deep.AppendLies
namespace Go.Proofs.Ytekdphfifdfmbaa
open Go.RowKit
set_option linter.unusedVariables false
/-! The queue's things as a row that a call owns. -/
def ptL (L : List Nat) : List Value := L.map fun b => .pointer (some ⟨b, 0, none⟩)
def OwnPt (w : World) (base : Nat) (v : Value) (L : List Nat) : Prop := w.ownsRow base 110 1 v L.length (ptL L)
theorem OwnPt.nil (w : World) (base : Nat) : OwnPt w base (.slice none 0 0) [] := ⟨rfl, .inl ⟨rfl, rfl⟩⟩
theorem ownPt_row {w : World} {base : Nat} {v : Value} {L : List Nat} (h : OwnPt w base v L) {g : Nat} (hg : v.ownBlock = some g) : base ≤ g ∧ g < w.heap.size ∧ ∃ cs, RowAt w g 110 cs := by
  rcases h.2 with ⟨rfl, _⟩ | ⟨g', cap, cur, rfl, hb, hr, r⟩
  · cases hg
  · have e : g' = g := Option.some.inj hg
    subst e
    exact ⟨hb, (show RowAt w g' 110 cur from hr).lt, cur, hr⟩
theorem OwnPt.keep {w w' : World} {base : Nat} {v : Value} {L : List Nat} (h : OwnPt w base v L) (hk : ∀ g cs, v.ownBlock = some g → RowAt w g 110 cs → RowAt w' g 110 cs) : OwnPt w' base v L := by
  refine ⟨h.1, ?_⟩
  rcases h.2 with h0 | ⟨g, cap, cur, he, hb, hr, r⟩
  · exact .inl h0
  · exact .inr ⟨g, cap, cur, he, hb, hk g cur (by rw [he]; rfl) hr, r⟩
theorem OwnPt.setQ {w : World} {B b k : Nat} {v u : Value} {L : List Nat} (h : OwnPt w B v L) (hn : ∀ g, v.ownBlock = some g → g ≠ b) : OwnPt (w.setCell ⟨b, k, none⟩ u) B v L := h.keep fun g cs e hr => ((grown_setCellQ w b k u).block g hr.lt (fun q => hn g e (Option.some.inj q))).trans hr
theorem OwnPt.below {w w' : World} {B : Nat} {v : Value} {L : List Nat} (h : OwnPt w B v L) (hb : Below w.heap.size w w') : OwnPt w' B v L := h.keep fun g cs _ hr => hr.below hb hr.lt
theorem RQ.own {A B : World} {base : Nat} {v : Value} {L : List Nat} (h : OwnPt A base v L) (hg : A.grownBy B v.ownBlock) : RQ A B := by
  cases e : v.ownBlock with
  | none => rw [e] at hg; exact ⟨hg.os, hg.tape, hg.output, hg.size, fun k hk => .inr (hg.block k hk (by simp))⟩
  | some g =>
    rw [e] at hg
    obtain ⟨_, _, cs, hr⟩ := ownPt_row h e
    exact RQ.grown hg hr (.inr (.inl rfl))
theorem OwnPt.slice {w : World} {base : Nat} {v : Value} {L : List Nat} (h : OwnPt w base v L) : ∃ a c, v = .slice a L.length c := by
  rcases h.2 with ⟨h0, h1⟩ | ⟨g, cap, cur, he, _⟩
  · exact ⟨_, _, by rw [h0, h1]⟩
  · exact ⟨_, _, he⟩
/-- told place by place -/
theorem OwnPt.frow {w : World} {base g n C : Nat} {L : List Nat} (h : OwnPt w base (.slice (some ⟨g, 0, none⟩) n C) L) : n = L.length ∧ base ≤ g ∧ n ≤ C ∧ ∃ f, FRow w g 110 C f ∧ ∀ i, i < n → f i = .pointer (some ⟨L.getD i 0, 0, none⟩) := by
  rcases h.2 with ⟨h0, h1⟩ | ⟨g', cap, cur, he, hb, hr, hnc, hm, hsz, htk⟩
  · cases h0
  · cases he
    refine ⟨rfl, hb, hnc, fun p => cur.getD p (.int .i64 0), FRow.of (show RowAt w g 110 cur from hr) (by simpa using hsz) fun p hp => ?_, fun i hi => ?_⟩
    · have : p < cur.size := by rw [hsz]; omega
      simp [Array.getD, this]
    · have q := congrArg (·[i]?) htk
      simp only [List.getElem?_take] at q
      rw [if_pos (by omega), Array.getElem?_toList, ptL, List.getElem?_map, List.getElem?_eq_getElem hi] at q
      simp only [Option.map_some] at q
      simp [Array.getD_eq_getD_getElem?, q, List.getD_eq_getElem?_getD, List.getElem?_eq_getElem hi]
theorem OwnPt.of {w : World} {base g n C : Nat} {f : Nat → Value} {H : Nat → Nat} (h : FRow w g 110 C f) (hf : ∀ i, i < n → f i = .pointer (some ⟨H i, 0, none⟩)) (hn : n ≤ C) (hC : C ≤ maxLen) (hb : base ≤ g) : OwnPt w base (.slice (some ⟨g, 0, none⟩) n C) ((List.range n).map H) := by
  have hl : ((List.range n).map H).length = n := by simp
  unfold OwnPt
  rw [hl]
  refine ⟨by simp [ptL], .inr ⟨g, C, _, rfl, hb, h.row, hn, hC, by simp, ?_⟩⟩
  rw [Nat.mul_one]
  apply List.ext_getElem?
  intro i
  rw [List.getElem?_take]
  by_cases hi : i < n
  · rw [if_pos hi]
    simp [ptL, hi, show i < C by omega, hf i hi]
  · rw [if_neg hi]
    simp [ptL, hi]
theorem Try.infoPt : (Try.prog.info? 110).map (fun i => (i.zero, i.size, i.bytes)) = some (some (.pointer none), 1, 8) := by kernel_rfl
theorem taQ (b : Nat) (w : World) : (Instr.typeAssert (.iface 110 (.pointer (some ⟨b, 0, none⟩))) 20 110 false).run Try.prog w = .ok (.pointer (some ⟨b, 0, none⟩)) w := by kernel_rfl
theorem step_append_ptE (base : Nat) (w : World) {ops : Array Oper} {op : Oper} {a : Act} {K : Act → World → Prop} {Q : Exit → Act → World → Prop} {E : Prop} (hgd : op.guard = none) (s x : Operand)
    (ho : op.op = .call { callee := .builtin .append, args := #[s, x], argTypes := #[105, 105] })
    (v : Value) (L : List Nat) (n : Nat) (hn : L.length = n) (y : Nat) (hs : a.eval s = v) (hown : OwnPt w base v L) (hsz : base ≤ w.heap.size)
    (b : Nat) (R : RowAt w b 110 #[.pointer (some ⟨y, 0, none⟩)]) (hx : a.eval x = .slice (some ⟨b, 0, none⟩) 1 1) (hlen : n + 1 ≤ 1048576)
    (h : ∀ g cap w', OwnPt w' base (.slice (some ⟨g, 0, none⟩) (n + 1) cap) (L ++ [y]) → w.grownBy w' v.ownBlock → K (a.put op.dst (.slice (some ⟨g, 0, none⟩) (n + 1) cap)) w') :
    if Region.wanted op (yielded ops a.tmps) = true then Oper.wp Try.prog op a w K Q else E := by
  subst hn
  obtain ⟨i0, hi, hz0, hz1, hz2⟩ := info_parts Try.infoPt
  refine step_append_lies _ hgd s x _ ho base 110 i0 _ 1 8 Try.underlying105 hi hz0 hz1 hz2 rfl (by decide) v L.length (ptL L) hs hown ⟨b, 0, none⟩ 1 1 [.pointer (some ⟨y, 0, none⟩)] hx rfl ?_ ?_ (by decide) ?_ ?_ hsz w.heap.size rfl ?_
  · intro j u hj
    have hadd : (⟨b, 0, none⟩ : Addr).add j = ⟨b, j, none⟩ := by unfold Addr.add; split <;> simp_all
    rw [hadd, R.cell]
    match j, hj with
    | 0, hj => exact hj
  · intro u hu; simp at hu; subst hu; rfl
  · unfold maxLen; omega
  · omega
  · intro g cap w' h1 h2 h3 _
    exact h g cap w' (by simpa [OwnPt, ptL] using h1) h2
end Go.Proofs.Ytekdphfifdfmbaa
