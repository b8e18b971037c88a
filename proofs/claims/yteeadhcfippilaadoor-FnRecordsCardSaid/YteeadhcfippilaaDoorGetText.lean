import Derived.Test.YteeadhcfippilaaDoorTakeText
namespace Go.Proofs.YteeadhcfippilaaDoor
open Go.RowKit
theorem keep_new {X : World} {c : Array Value} {t : TypeId} {n i : Nat} {v : Value} (hn : n = X.heap.size) (hv : c[i]? = some v) : (X.alloc (.cells c t)).drew.cell? ⟨n, i, none⟩ = some v := by
  show (X.alloc (.cells c t)).cell? ⟨n, i, none⟩ = some v
  rw [World.cell?_alloc_at _ _ _ _ hn]; exact hv

end Go.Proofs.YteeadhcfippilaaDoor
