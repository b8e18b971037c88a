import Derived.Test.YtmjolkagkeonfaaGreatDoorDraw2
import Derived.Test.YtmjolkagkeonfaaGreatDoorG2
import Derived.Deep.RegionWith
import Derived.Deep.RegionHeld3
import Derived.Deep.DrawnRows
import Derived.Lib.ConvBytes
namespace Go.Proofs.YtmjolkagkeonfaaGreatDoor
open Go.RowKit
attribute [local go_sem ↓] Go.wp_at_zero Go.wp_at_succ
theorem grown_drewS (w : World) (r : Option Nat) : w.grownBy w.drew r := ⟨rfl, rfl, rfl, Nat.le_refl _, fun _ _ _ => rfl⟩
theorem Src.drew {W0 w : World} {c : Nat} {a : Option Addr} {len cap p : Nat} (h : Src W0 w c a len cap p) : Src W0 w.drew c a len cap p :=
  h.far (grown_drewS w none) (by simp) (by intro g hg; cases hg)
theorem Src.alloc {W0 w : World} {c : Nat} {a : Option Addr} {len cap p : Nat} (h : Src W0 w c a len cap p) (o : Obj) : Src W0 (w.alloc o) c a len cap p :=
  h.far (World.grownBy_alloc w o none) (by simp) (by intro g hg; cases hg)
end Go.Proofs.YtmjolkagkeonfaaGreatDoor
