import Derived.Test.YtcfahbcpfjhajaaGreatDoorAnyInv
import Derived.Test.YtcfahbcpfjhajaaGreatDoorS3
import Derived.Deep.AppendLies
namespace Go.Proofs.YtcfahbcpfjhajaaGreatDoor
open Go.RowKit
/-! What the regions of signing want. -/
theorem Tryz.infoHpG : (Tryz.prog.info? 66).map (fun i => (i.zero, i.size, i.bytes)) = some (some hz2, 2, 32) := by kernel_rfl
def selS (b : Bool) (v o : Value) : Value := cond b v o
theorem step_append_hps {P : Program} (base : Nat) (w : World) {ops : Array Oper} {op : Oper} {a : Act} {K : Act → World → Prop} {Q : Exit → Act → World → Prop} {E : Prop} (hgd : op.guard = none) (s x : Operand) (t : TypeId)
    (ho : op.op = .call { callee := .builtin .append, args := #[s, x], argTypes := #[t, t] })
    (ht : P.underlying t = some (.slice 66)) (hinfo : (P.info? 66).map (fun i => (i.zero, i.size, i.bytes)) = some (some hz2, 2, 32))
    (v : Value) (L : List Hp) (M : List Hp) (hM : 0 < M.length) (hs : a.eval s = v) (hown : OwnHp w base v L) (hsz : base ≤ w.heap.size)
    (b : Nat) (hbox : RowAt w b 66 (hpL M).toArray) (m : Nat) (hm : M.length = m) (hx : a.eval x = .slice (some ⟨b, 0, none⟩) m m) (hlen : L.length + M.length ≤ 1048576)
    (h : ∀ g cap w', OwnHp w' base (.slice (some ⟨g, 0, none⟩) (L.length + m) cap) (L ++ M) → w.grownBy w' v.ownBlock → (v.ownBlock = some g ∨ g = w.heap.size) → K (a.put op.dst (.slice (some ⟨g, 0, none⟩) (L.length + m) cap)) w') :
    if Region.wanted op (yielded ops a.tmps) = true then Oper.wp P op a w K Q else E := by
  subst hm
  obtain ⟨i0, hi, hz0, hz1, hz2⟩ := info_parts hinfo
  refine step_append_lies _ hgd s x t ho base 66 i0 _ 2 32 ht hi hz0 hz1 hz2 rfl (by decide) v L.length (hpL L) hs hown ⟨b, 0, none⟩ M.length M.length (hpL M) hx (hpL_len M) ?_ ?_ hM ?_ ?_ hsz w.heap.size rfl ?_
  · intro j u hj
    have hadd : (⟨b, 0, none⟩ : Addr).add j = ⟨b, j, none⟩ := by unfold Addr.add; split <;> simp_all
    rw [hadd, hbox.cell]
    simpa using hj
  · intro u hu
    unfold hpL at hu
    obtain ⟨p, _, hp⟩ := List.mem_flatMap.1 hu
    simp at hp
    rcases hp with rfl | rfl <;> rfl
  · unfold maxLen; omega
  · omega
  · intro g cap w' h1 h2 h3 _
    exact h g cap w' (by unfold OwnHp; rw [hpL_app, List.length_append]; exact h1) h2 h3
theorem apartG {w : World} {BH g3 : Nat} {vH vL : Value} {LH : List Hp} (h : OwnHp w BH vH LH) (hap : vH.ownBlock = none ∨ vH.ownBlock ≠ vL.ownBlock) (hl : vL.ownBlock = some g3 ∨ g3 = w.heap.size) : vH.ownBlock = none ∨ vH.ownBlock ≠ some g3 := by
  rcases hap with h0 | h0
  · exact .inl h0
  · refine .inr fun e => ?_
    rcases hl with h1 | h1
    · exact h0 (e.trans h1.symm)
    · have := (World.ownsRow.lt h g3 e).2
      omega
theorem OwnHp.neRowS {w : World} {B X : Nat} {v : Value} {L : List Hp} {t : TypeId} {cs : Array Value} (h : OwnHp w B v L) (hr : RowAt w X t cs) (ht : t ≠ 66) : some X ≠ v.ownBlock := fun e => by
  rcases h.2 with ⟨rfl, _⟩ | ⟨g, cap, cur, rfl, _, hg, _⟩
  · simp [Value.ownBlock] at e
  · simp [Value.ownBlock] at e
    subst e
    have := Option.some.inj (Eq.trans (Eq.symm hr) hg)
    injection this with _ h2
    exact ht h2
theorem grown_setCellS (w : World) (b k : Nat) (v : Value) : w.grownBy (w.setCell ⟨b, k, none⟩ v) (some b) :=
  ⟨rfl, rfl, rfl, by simp, fun j _ hj => heap_setCell_other w ⟨b, k, none⟩ j v (fun e => hj (by rw [e]))⟩
theorem OwnHp.setCellS {w : World} {B b k : Nat} {v u : Value} {L : List Hp} (h : OwnHp w B v L) (hne : some b ≠ v.ownBlock) : OwnHp (w.setCell ⟨b, k, none⟩ u) B v L :=
  World.ownsRow.kept h (grown_setCellS w b k u) (.inr (Ne.symm hne))
theorem OwnHp.setRowS {w : World} {B b : Nat} {v : Value} {L : List Hp} (h : OwnHp w B v L) (hne : some b ≠ v.ownBlock) (cs : Array Value) : OwnHp (w.setRow b cs) B v L :=
  World.ownsRow.kept h (row := some b) ⟨rfl, rfl, rfl, by simp [World.setRow], fun j _ hr => setRow_other w b j cs (fun e => hr (by rw [e]))⟩ (.inr (Ne.symm hne))
theorem RowAt.nxS {X w1 : World} {b : Nat} {t : TypeId} {c : Array Value} (hb : Below X.heap.size X w1) (h : RowAt X b t c) : RowAt w1 b t c := h.below hb h.lt
end Go.Proofs.YtcfahbcpfjhajaaGreatDoor
