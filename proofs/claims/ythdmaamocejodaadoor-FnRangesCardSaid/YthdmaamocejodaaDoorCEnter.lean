import Derived.Test.YthdmaamocejodaaDoorFRow
import Derived.Test.YthdmaamocejodaaDoorCodeF
import Derived.Test.YthdmaamocejodaaDoorIGrid4
import Derived.Deep.RegionHeld3
import Derived.Deep.RegionLaw
namespace Go.Proofs.YthdmaamocejodaaDoor
open Go.RowKit
set_option maxRecDepth 20000 in
set_option maxHeartbeats 2000000 in
theorem ienter (cs : List Value) (S rb : Nat) (f : Nat → Value) (hl : cs.length = 33) (h0 : cs[0]? = some (.int .i64 S)) (hS : S < 64) (h1 : ∀ v ∈ cs, v.oneCell' = true) (w : World) (hR : FRow w rb 70 2048 f) :
    Calls Tryd.prog 38 #[.agg cs.toArray, .pointer (some ⟨rb, 0, none⟩)] w fun e w' => e = .returned (.tuple #[]) ∧ FRow w' rb 70 2048 (layF f (S * 32) (cs.drop 1)) ∧ w.grownBy w' (some rb) := by
  have HR := hid hR
  have hrl := hR.lt
  have H1 := hid h1
  clear h1 hR
  go_enter Tryd.func38, Tryd.ntmps38
  go_wp2_with fail
  obtain ⟨W, hW⟩ : ∃ W, W = w.alloc (.cells cs.toArray 94) := ⟨_, rfl⟩
  have rP : RowAt W w.heap.size 94 cs.toArray := by rw [hW]; exact RowAt.new w _ _
  have fR : FRow W rb 70 2048 f := by rw [hW]; exact HR.out.alloc _
  have hg : w.grownBy W (some rb) := by rw [hW]; exact World.grownBy_alloc w _ _
  rw [← hW]
  have c0 : W.cell? ⟨w.heap.size, 0, none⟩ = some (.int .i64 S) := by rw [rP.cell 0]; simpa using h0
  have r1 : W.rangeAt w.heap.size 1 (cs.drop 1) := fun j v hv => by
    rw [rP.cell (1 + j)]; rw [List.getElem?_drop] at hv; simpa using hv
  have t1 : W.there rb (S * 32) 32 := fR.there (S * 32) 32 (by omega)
  have u1 := Tryd.underlying68
  have s1 : (Tryd.prog.info? 68).map (·.size) = some (cs.drop 1).length := by rw [List.length_drop, hl]; kernel_rfl
  have l1 : (cs.drop 1).length = 32 := by rw [List.length_drop, hl]
  have o1 : ∀ v ∈ cs.drop 1, v.oneCell' = true := fun v hv => H1.out v (List.mem_of_mem_drop hv)
  have i1 : (S : Int) < 64 := by omega
  have i0 : (0 : Int) ≤ (S : Int) := by omega
  have FR := hid fR
  have HG := hid hg
  obtain ⟨vs, hvs⟩ : ∃ vs, vs = cs.drop 1 := ⟨_, rfl⟩
  rw [← hvs] at r1 s1 l1 o1
  have HVS := hid hvs
  have hne : some w.heap.size ≠ some rb := fun e => by
    have e2 : w.heap.size = rb := Option.some.inj e
    omega
  have K0 : Hid ((W.drew.setCells rb (S * 32) vs).cell? ⟨w.heap.size, 0, none⟩ = some (.int .i64 S)) := by
    have h := ((setCells_grown vs (S * 32) W.drew).block w.heap.size rP.lt hne).trans rP
    show _ = _
    rw [(show RowAt (W.drew.setCells rb (S * 32) vs) w.heap.size 94 cs.toArray from h).cell 0]; simpa using h0
  have K1 : Hid ((W.drew.setCells rb (S * 32) vs).rangeAt w.heap.size 1 vs) := World.rangeAt_setCells_apart (show W.drew.rangeAt w.heap.size 1 vs from r1) rb (S * 32) vs (Or.inl (by omega))
  have K2 : Hid ((W.drew.setCells rb (S * 32) vs).there rb (S * 32) 32) := World.there_setCells (show W.drew.there rb (S * 32) 32 from t1) rb (S * 32) vs
  have N1 : Hid (FRow (W.drew.setCells rb (S * 32) vs) rb 70 2048 (layF f (S * 32) vs)) := FRow.setCells vs (S * 32) FR.out.drew
  have N2 : Hid (w.grownBy (W.drew.setCells rb (S * 32) vs) (some rb)) := grown_trans (grown_trans HG.out (grown_drewN W 1 _)) (setCells_grown vs (S * 32) W.drew)
  clear hne hvs h0 hl fR hg rP hW HR H1 FR HG
  go_region_held3 (fun wx => wx.cell? ⟨w.heap.size, 0, none⟩ = some (.int .i64 S) ∧ wx.rangeAt w.heap.size 1 vs ∧ wx.there rb (S * 32) 32) ((first | exact ⟨c0, r1, t1⟩ | exact ⟨K0.out, K1.out, K2.out⟩)) ((fail))
  go_wp2
  go_end0
  exact ⟨rfl, by rw [← HVS.out]; exact N1.out, N2.out⟩
end Go.Proofs.YthdmaamocejodaaDoor
