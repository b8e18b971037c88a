import Derived.Test.YtokjfffcciddhaaGreatDoorBase
namespace Go.Proofs.YtokjfffcciddhaaGreatDoor
open Go.RowKit
/-! A proposition as a Bool. -/
open Classical in
noncomputable def pb (p : Prop) : Bool := decide p
theorem pb_t {p : Prop} (h : p) : pb p = true := by unfold pb; simpa using h
theorem pb_f {p : Prop} (h : ¬ p) : pb p = false := by unfold pb; simpa using h
theorem pb_iff {p : Prop} : pb p = true ↔ p := by unfold pb; simp
theorem pb_not {p : Prop} : pb p = false ↔ ¬ p := by unfold pb; simp
theorem pb_congr {p q : Prop} (h : p ↔ q) : pb p = pb q := by rw [propext h]
end Go.Proofs.YtokjfffcciddhaaGreatDoor
