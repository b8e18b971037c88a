import Derived.Test.YtekdphfifdfmbaaRunFaultWalk
import Derived.Test.YtekdphfifdfmbaaITab
namespace Go.Proofs.Ytekdphfifdfmbaa
open Go.RowKit
/-- a table as the row hands it in -/
def IsRns (w : World) (a : Option Addr) (m cap : Nat) (R : Nat → Rn) : Prop := Rns w a m cap R ∧ cap ≤ maxLen ∧ ∀ k, k < m → IsEns w (R k).ad (R k).n (R k).cap (R k).o
theorem szR_ge (R : Nat → Rn) : ∀ m, cntR R m ≤ szR R m
  | 0 => Nat.le_refl _
  | m + 1 => by have := szR_ge R m; show cntR R m + (R m).n ≤ szR R m + ((R m).n + _); omega
theorem MkT.cells {w : World} {n0 : Nat} {o0 : Nat → En} {m : Nat} {R : Nat → Rn} {g gr : Nat} {G : Nat → Nat} (h : MkT w n0 o0 m R g gr G) : ∀ k, k < m → w.cell? ⟨gr, k, none⟩ = some (rnV (mkR R G k)) := fun k hk => by
  have := h.2.1.cell hk
  rw [show rnTo R G m k = .slice (some ⟨G k, 0, none⟩) (R k).n (R k).n by unfold rnTo; rw [if_pos hk]] at this
  exact this
theorem cntR_mk (R : Nat → Rn) (G : Nat → Nat) : ∀ m, cntR (mkR R G) m = cntR R m
  | 0 => rfl
  | m + 1 => by show cntR (mkR R G) m + _ = cntR R m + _; rw [cntR_mk R G m]; rfl
theorem sqA_mk (R : Nat → Rn) (G : Nat → Nat) : ∀ m, sqA (mkR R G) m = sqA R m
  | 0 => rfl
  | m + 1 => by show sqA (mkR R G) m ++ _ = sqA R m ++ _; rw [sqA_mk R G m]; rfl
theorem tabV_mk (s f : Int) (n0 : Nat) (o0 : Nat → En) (m : Nat) (R : Nat → Rn) (G : Nat → Nat) : tabV s f n0 o0 m (mkR R G) = tabV s f n0 o0 m R := by
  have : tabOk s f n0 o0 m (mkR R G) ↔ tabOk s f n0 o0 m R := by
    unfold tabOk tabTo
    rw [cntR_mk, sqA_mk]
    exact Iff.rfl
  by_cases h : tabOk s f n0 o0 m R
  · rw [tabV_ok h, tabV_ok (this.2 h)]
  · rw [tabV_no h, tabV_no fun q => h (this.1 q)]
end Go.Proofs.Ytekdphfifdfmbaa
