import Derived.Test.YtgoplcjjoiiagaaGreatDoorRdO
namespace Go.Proofs.YtgoplcjjoiiagaaGreatDoor
open Go.RowKit
/-! The specification's ReadRequest. -/
theorem hps_of {w : World} {base : Nat} {a : Option Addr} {n c : Nat} {L : List Hp} (h : OwnHp w base (.slice a n c) L) (hn : n = L.length) : Hps w a L.length c (hAt L) := by
  obtain ⟨a', c', e, h'⟩ := h.hps
  subst hn
  cases e
  exact h'
end Go.Proofs.YtgoplcjjoiiagaaGreatDoor
