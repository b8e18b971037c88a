import Derived.Test.YtmjolkagkeonfaaDoorDrawAsk1
import Derived.Test.YtmjolkagkeonfaaDoorJdM
namespace Go.Proofs.YtmjolkagkeonfaaDoor
open Go.RowKit
set_option linter.unusedVariables false
/-! The draw of an ask. -/
/-- a drawn ask is short -/
structure AqS (q : Aq) : Prop where
  wo : q.wo.size ≤ 6
  wa : q.wa.size ≤ 6
  wi : q.wi.size ≤ 6
  fr : q.fr.size ≤ 6
  tm : 0 ≤ q.tm ∧ q.tm ≤ 200
theorem AqS.aqB {q : Aq} (h : AqS q) : AqB q := ⟨by have := h.wo; omega, by have := h.wa; omega, by have := h.wi; omega, by have := h.fr; omega⟩
set_option maxRecDepth 20000 in
set_option maxHeartbeats 4000000 in
theorem ask_all (W0 w : World) (c : Nat) (a : Option Addr) (len cap p : Nat) (h : Src W0 w c a len cap p) (hp : p ≤ 900000) :
    Calls Tryd.prog 10 #[.pointer (some ⟨c, 0, none⟩)] w fun e w' => (∃ q : Aq, e = .returned (.agg #[.string q.wo, .string q.wa, .string q.wi, .string q.fr, .int .i64 q.tm]) ∧ AqS q) ∧ (∃ p', Src W0 w' c a len cap p' ∧ p' ≤ p + 240) ∧ w.grownBy w' (some c) := by
  obtain ⟨W1, hW1⟩ : ∃ W, W = w.alloc (.cells #[.string ⟨#[]⟩, .string ⟨#[]⟩, .string ⟨#[]⟩, .string ⟨#[]⟩, .int .i64 0] 25) := ⟨_, rfl⟩
  have S1 : Hid (Src W0 W1 c a len cap p) := by rw [hW1]; exact h.alloc _
  have G1 : Hid (w.grownBy W1 (some c)) := by rw [hW1]; exact World.grownBy_alloc _ _ _
  have R1 : Hid (RowAt W1 w.heap.size 25 #[.string ⟨#[]⟩, .string ⟨#[]⟩, .string ⟨#[]⟩, .string ⟨#[]⟩, .int .i64 0]) := by rw [hW1]; exact RowAt.new _ _ _
  have hc := h.lt
  clear h
  go_enter Tryd.func10, Tryd.ntmps10
  go_upto_region 1 with fail
  rw [← hW1]
  clear hW1
  refine ak1_wp W0 w c a len cap p w.heap.size W1 S1.out G1.out ⟨hc, Nat.le_refl _⟩ R1.out hp ?_
  intro X0 X5 X10 X15 X23 R2 R7 R12 R17 R21 R25 x4 x9 x14 x19 tm pp w' hS hp2 hg hc2 hb
  intros
  rename_i hx4 hx9 hx14 hx19 htm _
  have hbx : RowAt w' w.heap.size 25 #[.string x4, .string x9, .string x14, .string x19, .int .i64 tm] := hb
  have S2 := hid hS
  have G2 := hid hg
  have B2 := hid hbx
  clear hS hg hb hbx S1 G1 R1
  go_wp2
  refine bodyPost_ret (v := .agg #[.string x4, .string x9, .string x14, .string x19, .int .i64 tm]) ?_ rfl ⟨⟨⟨x4, x9, x14, x19, tm⟩, rfl, ⟨by show x4.size ≤ 6; omega, by show x9.size ≤ 6; omega, by show x14.size ≤ 6; omega, by show x19.size ≤ 6; omega, htm⟩⟩, ⟨pp, S2.out, by omega⟩, G2.out⟩
  exact results_cell_row Tryd.results10 _ _ w.heap.size _ _ _ _ rfl B2.out Tryd.underlying25 rfl (by kernel_rfl)
end Go.Proofs.YtmjolkagkeonfaaDoor
