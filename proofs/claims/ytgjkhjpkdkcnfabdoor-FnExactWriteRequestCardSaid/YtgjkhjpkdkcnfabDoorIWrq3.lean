import Derived.Test.YtgjkhjpkdkcnfabDoorIWrq2
namespace Go.Proofs.YtgjkhjpkdkcnfabDoor
open Go.RowKit Go.Shelf
/-! The program's firstLine, WriteRequest. -/
def fsL (r : Rq) : List UInt8 := r.mt.data.toList ++ [32] ++ escV r.pt ++ qyL r.qs.o r.qs.n ++ [10]
set_option maxRecDepth 20000 in
set_option maxHeartbeats 4000000 in
theorem iFstL (r : Rq) (hr : rqP r) (w : World) (h : RqIn w r) :
    Calls Tryd.prog 15 #[.agg #[.string r.mt, .string r.pt, .slice r.qs.ad r.qs.n r.qs.cap, .slice r.hs.ad r.hs.n r.hs.cap, .string r.bd]] w fun e w' => e = .returned (.string (ofL (fsL r))) ∧ Below w.heap.size w w' := by
  obtain ⟨mt, pt, ⟨a1, n1, c1, o1⟩, ⟨a2, n2, c2, o2⟩, bd⟩ := r
  dsimp only
  have hm := hr.1.2.1
  have hp : pt.size ≤ 1000 := hr.2.1.2.1
  have q1 := hr.2.2.1.1
  have SQ := hid hr.2.2.2.2.2.1
  dsimp only at hm q1 SQ
  have J := Jn.box w 29 #[.string mt, .string pt, .slice a1 n1 c1, .slice a2 n2 c2, .string bd]
  have HQ := hid h.qs
  dsimp only at HQ
  clear h hr
  obtain ⟨W0, hW0⟩ : ∃ W, W = w.alloc (.cells #[.string mt, .string pt, .slice a1 n1 c1, .slice a2 n2 c2, .string bd] 29) := ⟨_, rfl⟩
  rw [← hW0] at J
  have K0 := fun wx => hid (iEsc pt (by omega) wx)
  have KQ := fun wx hx => hid (iQText a1 n1 c1 o1 q1 SQ.out wx hx)
  have QL := qtL_len o1 n1 SQ.out
  have l0 : (ofL (escV pt)).size ≤ 3000 := by rw [ofL_size]; have := escV_len pt; omega
  have EE : Hid ((mt ++ ⟨#[32]⟩ ++ ofL (escV pt)).data.toList = mt.data.toList ++ [32] ++ escV pt) := by show _ = _; rw [ba_app, ba_app, ofL_l]
  obtain ⟨E0, hE0⟩ : ∃ E, E = ofL (escV pt) := ⟨_, rfl⟩
  rw [← hE0] at K0 l0 EE
  clear hE0
  have S0 : Hid ((mt ++ ⟨#[32]⟩ ++ E0).size ≤ 3100) := by show _ ≤ _; rw [sizeApp, sizeApp]; show mt.size + 1 + _ ≤ _; omega
  have z0 : ¬ 9223372036854775807 < mt.size + 1 := by omega
  have z1 : ¬ 9223372036854775807 < mt.size + 1 + E0.size := by omega
  have y0 : W0.cell? ⟨w.heap.size, 0, none⟩ = some (.string mt) := J.out.1.cell 0
  have y1 : W0.cell? ⟨w.heap.size, 1, none⟩ = some (.string pt) := J.out.1.cell 1
  have FN0 : Hid (n1 = 0 → ∀ T : ByteArray, T.data.toList = mt.data.toList ++ [32] ++ escV pt → T ++ ⟨#[10]⟩ = ofL (fsL ⟨mt, pt, ⟨a1, n1, c1, o1⟩, ⟨a2, n2, c2, o2⟩, bd⟩)) := fun h0 T hT => ofL_of (by subst h0; rw [ba_app, hT]; unfold fsL qyL; simp)
  have FN1 : Hid (n1 ≠ 0 → ∀ T : ByteArray, T.data.toList = mt.data.toList ++ [32] ++ escV pt → T ++ (⟨#[63]⟩ ++ ofL (qtL o1 n1)) ++ ⟨#[10]⟩ = ofL (fsL ⟨mt, pt, ⟨a1, n1, c1, o1⟩, ⟨a2, n2, c2, o2⟩, bd⟩)) := fun h0 T hT => ofL_of (by
    obtain ⟨n, rfl⟩ : ∃ n, n1 = n + 1 := ⟨n1 - 1, by omega⟩
    rw [ba_app, ba_app, ba_app, hT, ofL_l]
    unfold fsL
    rw [qyL_join]
    simp)
  rw [← ofL_size] at QL
  obtain ⟨QT, hQT⟩ : ∃ Q, Q = ofL (qtL o1 n1) := ⟨_, rfl⟩
  rw [← hQT] at KQ QL FN1
  obtain ⟨RS, hRS⟩ : ∃ Q, Q = ofL (fsL ⟨mt, pt, ⟨a1, n1, c1, o1⟩, ⟨a2, n2, c2, o2⟩, bd⟩) := ⟨_, rfl⟩
  rw [← hRS] at FN0 FN1 ⊢
  clear hQT hRS
  go_enter Tryd.func15, Tryd.ntmps15
  go_upto_region 1 with fail
  rw [← hW0]
  clear hW0
  go_region_held3 (fun wx => wx.cell? ⟨w.heap.size, 0, none⟩ = some (.string mt) ∧ wx.cell? ⟨w.heap.size, 1, none⟩ = some (.string pt))
    (first | with_reducible exact ⟨y0, y1⟩ | exact ⟨J.out.1.cell 0, J.out.1.cell 1⟩)
    ((go_at_call_of 37 (Value.string pt); refine (K0 _).out.mono ?_; rintro e w2 ⟨rfl, hb2⟩; (first | replace J := Jn.next hb2 J | replace J := Jn.next hb2 (Jn.drew J)); replace y0 := J.out.1.cell 0; replace y1 := J.out.1.cell 1; clear hb2))
  clear y0 y1 z0 z1 K0
  have x2 : w2.cell? ⟨w.heap.size, 2, none⟩ = some (.slice a1 n1 c1) := J.out.1.cell 2
  have S0' : (mt ++ ⟨#[32]⟩ ++ E0).size ≤ 3100 := S0.out
  generalize mt ++ ⟨#[32]⟩ ++ E0 = T0 at EE S0' ⊢
  clear l0 S0
  by_cases hn0 : n1 = 0
  · have F := hid (FN0.out hn0 T0 EE.out)
    have d0 : ¬ (0 : Int) < (n1 : Int) := by omega
    have d1 : ¬ 0 < n1 := by omega
    have z1 : ¬ 9223372036854775807 < T0.size + 1 := by omega
    clear hn0 FN0 FN1 EE
    go_wp2
    go_ret
    exact ⟨by rw [← F.out]; rfl, J.out.2⟩
  · have F := hid (FN1.out hn0 T0 EE.out)
    have d0 : (0 : Int) < (n1 : Int) := by omega
    have d1 : 0 < n1 := by omega
    have z1 : ¬ 9223372036854775807 < T0.size + (1 + QT.size) := by omega
    have z2 : ¬ 9223372036854775807 < 1 + QT.size := by omega
    have z3 : ¬ 9223372036854775807 < T0.size + (1 + QT.size) + 1 := by omega
    clear hn0 FN0 FN1 EE
    go_wp2_with fail
    refine (KQ _ (HQ.out.below J.out.2)).out.mono ?_
    rintro e w3 ⟨rfl, hb3⟩
    have J3 := Jn.next hb3 J
    clear hb3 x2 J
    go_wp2
    go_ret
    exact ⟨by rw [← F.out]; rfl, J3.out.2⟩
end Go.Proofs.YtgjkhjpkdkcnfabDoor
