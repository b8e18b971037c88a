import Derived.Test.YtngkiokibldfjaaGreatDoorProg
import Derived.Test.YtngkiokibldfjaaGreatDoorBase
import Derived.WalkLawsBesides
import Derived.WalkSpells
import Derived.OpenShut
namespace Go.Proofs.YtngkiokibldfjaaGreatDoor
open Go.RowKit
/-- The code lies in the old memory. -/
def CodeOk (W0 : World) (a : Option Addr) (len : Nat) : Prop :=
  len ≤ 1048576 ∧ (len = 0 ∨ ∃ b off, a = some ⟨b, off, none⟩ ∧ b < W0.heap.size ∧ ∀ i, i < len → ∃ z : Nat, z < 256 ∧ W0.cell? ⟨b, off + i, none⟩ = some (.int .u8 z))

theorem CodeOk.below {w w1 : World} {a : Option Addr} {len : Nat} (h : CodeOk w a len) (hb : Below w.heap.size w w1) : CodeOk w1 a len := by
  refine ⟨h.1, ?_⟩
  rcases h.2 with h0 | ⟨b, off, rfl, hbl, hc⟩
  · exact Or.inl h0
  · refine Or.inr ⟨b, off, rfl, Nat.lt_of_lt_of_le hbl hb.size, fun i hi => ?_⟩
    obtain ⟨z, hz, hcell⟩ := hc i hi
    exact ⟨z, hz, (hb.cell (p := ⟨b, off + i, none⟩) hbl).trans hcell⟩
theorem below_trans' {w w1 w2 : World} (h1 : Below w.heap.size w w1) (h2 : Below w1.heap.size w1 w2) : Below w.heap.size w w2 := h1.trans (h2.mono h1.size)

theorem codeOk_of (w : World) (a : Option Addr) (len cap : Nat) (zs : List Int) (h : IsRow .u8 w a len cap zs) (hl : len ≤ 1048576) : CodeOk w a len := by
  refine ⟨hl, ?_⟩
  by_cases h0 : len = 0
  · exact Or.inl h0
  · rcases h with ⟨_, h1, _⟩ | ⟨x, rfl, h1, h2, h3, hcell, hwf⟩
    · exact absurd h1 h0
    · right
      obtain ⟨b, off, spot⟩ := x
      have hc := hcell 0 (by omega)
      have hspot : spot = none := by simpa [Addr.add] using World.cell?_spot hc
      subst hspot
      have hadd : ∀ i, (⟨b, off, none⟩ : Addr).add i = ⟨b, off + i, none⟩ := by intro i; unfold Addr.add; split <;> simp_all
      refine ⟨b, off, rfl, ?_, ?_⟩
      · have := World.block_lt_of_cell? w _ hc; rw [hadd] at this; exact this
      · intro i hi
        have hci := hcell i (by omega)
        rw [hadd] at hci
        have hm : zs.getD i 0 ∈ zs := by rw [List.getD_eq_getElem?_getD, List.getElem?_eq_getElem (by omega)]; simp
        have hb := bounds_u8 (hwf _ hm)
        obtain ⟨z, hz⟩ := Int.eq_ofNat_of_zero_le hb.1
        rw [hz] at hci hb
        exact ⟨z, by omega, hci⟩

/-- A byte of a code, or what stands for it. -/
theorem lwAt_all (w : World) (a : Option Addr) (len cap i : Nat) (hc : CodeOk w a len) (hi : i ≤ 1000) :
    Calls Tryz.prog 6 #[.slice a len cap, .int .i64 i] w fun e w' => (∃ r : Nat, e = .returned (.int .i64 r) ∧ r < 256) ∧ w' = w := by
  have hl := hc.1
  by_cases h : i < len
  · rcases hc.2 with h0 | ⟨b, off, rfl, hb, hcell⟩
    · omega
    · obtain ⟨z, hz, e1⟩ := hcell i h
      have i1 : (i : Int) < (len : Int) := by omega
      go_enter Tryz.func6, Tryz.ntmps6
      go_wp2
      go_ret
      exact ⟨⟨z, rfl, hz⟩, rfl⟩
  · go_enter Tryz.func6, Tryz.ntmps6
    go_wp2
    go_ret
    refine ⟨⟨(i * 61 + 29) % 256, ?_, by omega⟩, rfl⟩
    exact congrArg (fun x => Ending.returned (.int .i64 x)) (by omega)
end Go.Proofs.YtngkiokibldfjaaGreatDoor
