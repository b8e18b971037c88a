import Derived.Test.YtgoplcjjoiiagaaGreatDoorRdSeq
import Derived.Test.YtgoplcjjoiiagaaGreatDoorRdNum
import Derived.Test.YtgoplcjjoiiagaaGreatDoorS3
import Derived.Test.YtgoplcjjoiiagaaGreatDoorIUnE2
import Derived.Test.YtgoplcjjoiiagaaGreatDoorClone
import Derived.Deep.RegionHeld3
import Derived.Deep.RegionLaw
namespace Go.Proofs.YtgoplcjjoiiagaaGreatDoor
open Go.RowKit Go.Shelf
/-! The program's readQueryPair. -/
def QpO (p : List UInt8) (N V : ByteArray) (ok : Bool) : Prop :=
  (ok = true → ∃ n v n' v', cutP [61] p = some (n, v) ∧ unL n = some n' ∧ unL v = some v' ∧ N = ofL n' ∧ V = ofL v') ∧ (ok = false → ∀ r, qyO (p :: r) = none)
theorem unO_form (s : ByteArray) : ∃ g T q, unO s = .agg #[.bool g, .string T, .int .i64 q] ∧ (g = true → unV s = some T.data.toList) ∧ (g = false → unV s = none) := by
  cases h : unV s with
  | none => exact ⟨false, ⟨#[]⟩, 0, by unfold unO; rw [h], fun e => Bool.noConfusion e, fun _ => rfl⟩
  | some b => exact ⟨true, ⟨b.toArray⟩, (s.size : Int), unO_some h, fun _ => by simp, fun e => Bool.noConfusion e⟩
theorem qp_of (p a b : List UInt8) (f : Bool) (hc : cutV [61] p = (a, b, f)) (g1 g2 : Bool) (T1 T2 : ByteArray) (h1 : g1 = true → unV (ofL a) = some T1.data.toList) (h1n : g1 = false → unV (ofL a) = none) (h2 : g2 = true → unV (ofL b) = some T2.data.toList) (h2n : g2 = false → unV (ofL b) = none) : QpO p T1 T2 (f && g1 && g2) := by
  unfold cutV at hc
  cases hq : cutP [61] p with
  | none =>
    rw [hq] at hc
    cases hc
    exact ⟨fun e => by simp at e, fun _ r => qyO_none1 hq⟩
  | some x =>
    obtain ⟨n, v⟩ := x
    rw [hq] at hc
    cases hc
    cases g1 with
    | false => exact ⟨fun e => by simp at e, fun _ r => qyO_none2 hq (h1n rfl)⟩
    | true =>
      cases g2 with
      | false => exact ⟨fun e => by simp at e, fun _ r => qyO_none3 hq (h1 rfl) (h2n rfl)⟩
      | true => exact ⟨fun _ => ⟨a, b, T1.data.toList, T2.data.toList, hq, h1 rfl, h2 rfl, ofL_of rfl, ofL_of rfl⟩, fun e => by simp at e⟩
theorem pair_ret {t : ByteArray} {w wf : World} {N V : ByteArray} {ok : Bool} {tm : Array Value} (hR : RowAt wf w.heap.size 54 #[.string N, .string V]) (hB : Below w.heap.size w wf) (hq : QpO t.data.toList N V ok)
    (h2 : tm.getD 2 undef = .pointer (some ⟨w.heap.size, 0, none⟩)) (h3 : tm.getD 3 undef = .bool ok) :
    bodyPost Tryz.prog Tryz.f129 (fun e w' => (∃ N V ok, e = .returned (.tuple #[.agg #[.string N, .string V], .bool ok]) ∧ QpO t.data.toList N V ok) ∧ Below w.heap.size w w') Exit.ret { tmps := tm, defers := [] } wf := by
  have h2' : tm[2]?.getD undef = .pointer (some ⟨w.heap.size, 0, none⟩) := by simpa using h2
  have h3' : tm[3]?.getD undef = .bool ok := by simpa using h3
  refine ⟨rfl, .tuple #[.agg #[.string N, .string V], .bool ok], ?_, ⟨N, V, ok, rfl, hq⟩, hB⟩
  have hl := run_loadVar_row (P := Tryz.prog) _ w.heap.size 54 54 _ (0, 0) _ hR Tryz.underlying54 rfl (by kernel_rfl)
  simp [results, Tryz.results129, h2', h3', asAddr, hl]
set_option maxRecDepth 20000 in
set_option maxHeartbeats 1000000 in
theorem iQPair (t : ByteArray) (ht : t.size ≤ 1048576) (w : World) (hv : RdV w) :
    Calls Tryz.prog 129 #[.string t] w fun e w' => (∃ N V ok, e = .returned (.tuple #[.agg #[.string N, .string V], .bool ok]) ∧ QpO t.data.toList N V ok) ∧ Below w.heap.size w w' := by
  have J := Jn.box w 54 #[.string ⟨#[]⟩, .string ⟨#[]⟩]
  obtain ⟨W0, hW0⟩ : ∃ W, W = w.alloc (.cells #[.string ⟨#[]⟩, .string ⟨#[]⟩] 54) := ⟨_, rfl⟩
  rw [← hW0] at J
  have HV := hid (hv.below ((Below.refl _ _).alloc (Nat.le_refl _) (.cells #[.string ⟨#[]⟩, .string ⟨#[]⟩] 54)))
  rw [← hW0] at HV
  have KC := hid (iCutS t ⟨#[61]⟩ ht W0 HV.out)
  obtain ⟨a, b, f, hc⟩ : ∃ a b f, cutV [61] t.data.toList = (a, b, f) := ⟨_, _, _, rfl⟩
  have hc' : cutV (⟨#[61]⟩ : ByteArray).data.toList t.data.toList = (a, b, f) := hc
  rw [hc'] at KC
  dsimp only at KC
  obtain ⟨g1, T1, q1, e1, y1, n1⟩ := unO_form (ofL a)
  obtain ⟨g2, T2, q2, e2, y2, n2⟩ := unO_form (ofL b)
  have QP := hid (qp_of _ a b f hc g1 g2 T1 T2 y1 n1 y2 n2)
  have K1 := fun wx => hid (iUn (ofL a) wx)
  have K2 := fun wx => hid (iUn (ofL b) wx)
  rw [e1] at K1
  rw [e2] at K2
  generalize ofL a = a' at KC K1
  generalize ofL b = b' at KC K2
  clear hc hc' e1 e2 y1 n1 y2 n2 hv
  go_enter Tryz.func129, Tryz.ntmps129
  go_wp2_with fail
  rw [← hW0]
  clear hW0
  refine KC.out.mono ?_
  rintro e w1 ⟨rfl, m, hw1⟩
  have J1 : Hid (Jn w w1 w.heap.size 54 #[.string ⟨#[]⟩, .string ⟨#[]⟩]) := by rw [hw1]; exact Jn.drewN J m
  clear hw1 J KC HV
  go_wp2_with fail
  refine (K1 _).out.mono ?_
  rintro e w2 ⟨rfl, hb2⟩
  replace J1 := Jn.next hb2 J1
  clear hb2
  go_wp2_with fail
  refine (K2 _).out.mono ?_
  rintro e w3 ⟨rfl, hb3⟩
  replace J1 := Jn.next hb3 J1
  clear hb3
  obtain ⟨W4, hW4⟩ : ∃ W, W = w3.alloc (.cells #[.bool g1, .string T1, .int .i64 q1] 30) := ⟨_, rfl⟩
  obtain ⟨W5, hW5⟩ : ∃ W, W = W4.alloc (.cells #[.bool g2, .string T2, .int .i64 q2] 30) := ⟨_, rfl⟩
  have sz4 : W4.heap.size = w3.heap.size + 1 := by rw [hW4, World.size_alloc]
  have A1 : Hid (RowAt W5 w3.heap.size 30 #[.bool g1, .string T1, .int .i64 q1]) := by rw [hW5, hW4]; exact (RowAt.new _ _ _).alloc _
  have A2 : Hid (RowAt W5 (w3.heap.size + 1) 30 #[.bool g2, .string T2, .int .i64 q2]) := by rw [hW5, ← sz4]; exact RowAt.new _ _ _
  have J5 : Hid (Jn w W5 w.heap.size 54 #[.string ⟨#[]⟩, .string ⟨#[]⟩]) := by
    rw [hW5, hW4]
    exact ⟨(J1.out.1.alloc _).alloc _, (J1.out.2.alloc J1.out.2.size _).alloc (Nat.le_trans J1.out.2.size (by simp)) _⟩
  have E5 : Hid (W5 = (w3.alloc (.cells #[.bool g1, .string T1, .int .i64 q1] 30)).alloc (.cells #[.bool g2, .string T2, .int .i64 q2] 30)) := by show _ = _; rw [hW5, hW4]
  have hlt : w.heap.size < w3.heap.size := J1.out.1.lt
  clear hW4 hW5 sz4 J1
  go_upto_region 3 with fail
  rw [← E5.out]
  clear E5
  obtain ⟨x1, hx1⟩ : ∃ x, x = w3.heap.size := ⟨_, rfl⟩
  rw [← hx1] at A1 A2 hlt ⊢
  have c10 := A1.out.cell 0
  have c11 := A1.out.cell 1
  have c20 := A2.out.cell 0
  have c21 := A2.out.cell 1
  have r0 := J5.out.1.cell 0
  have r1 := J5.out.1.cell 1
  have fr0 := J5.out.1.free 0
  have fr1 := J5.out.1.free 1
  clear hx1
  have k20 : ((W5.setCell ⟨w.heap.size, 0, none⟩ (.string T1)).setCell ⟨w.heap.size, 1, none⟩ (.string T2)).cell? ⟨x1 + 1, 0, none⟩ = some (.bool g2) := ((A2.out.other _ _ (by show x1 + 1 ≠ w.heap.size; omega)).other _ _ (by show x1 + 1 ≠ w.heap.size; omega)).cell 0
  have k21 : (W5.setCell ⟨w.heap.size, 0, none⟩ (.string T1)).cell? ⟨x1 + 1, 0, none⟩ = some (.bool g2) := (A2.out.other _ _ (by show x1 + 1 ≠ w.heap.size; omega)).cell 0
  have R5 : Hid (RowAt ((W5.setCell ⟨w.heap.size, 0, none⟩ (.string T1)).setCell ⟨w.heap.size, 1, none⟩ (.string T2)) w.heap.size 54 #[.string T1, .string T2]) := (J5.out.1.set 0 (.string T1)).set 1 (.string T2)
  have B5 : Hid (Below w.heap.size w ((W5.setCell ⟨w.heap.size, 0, none⟩ (.string T1)).setCell ⟨w.heap.size, 1, none⟩ (.string T2))) := (J5.out.2.setCell (Nat.le_refl _) _).setCell (Nat.le_refl _) _
  cases f with
  | false =>
    have QP2 : Hid (QpO t.data.toList T1 T2 false) := QP.out
    clear QP
    go_region
    all_goals go_wp2
    all_goals first | exact pair_ret R5.out.drew B5.out.drew QP2.out rfl rfl | exact pair_ret R5.out B5.out QP2.out rfl rfl
  | true =>
    cases g1 with
    | false =>
      have QP2 : Hid (QpO t.data.toList T1 T2 false) := QP.out
      clear QP
      go_region
      all_goals go_wp2
      all_goals first | exact pair_ret R5.out.drew B5.out.drew QP2.out rfl rfl | exact pair_ret R5.out B5.out QP2.out rfl rfl
    | true =>
      have QP2 : Hid (QpO t.data.toList T1 T2 g2) := QP.out
      clear QP
      go_region
      all_goals go_wp2
      all_goals first | exact pair_ret R5.out.drew B5.out.drew QP2.out rfl rfl | exact pair_ret R5.out B5.out QP2.out rfl rfl
end Go.Proofs.YtgoplcjjoiiagaaGreatDoor
