import Derived.Test.YtgjkhjpkdkcnfabDoorLawRq
namespace Go.Proofs.YtgjkhjpkdkcnfabDoor
open Go.RowKit
/-! Requests made anew. -/
structure RqMade (w : World) (lo : Nat) (r : Rq) : Prop where
  qs : ∃ g, r.qs.ad = some ⟨g, 0, none⟩ ∧ r.qs.cap = r.qs.n ∧ lo ≤ g ∧ FRow w g 45 (r.qs.n * 2) (hpF r.qs.o)
  hs : ∃ g, r.hs.ad = some ⟨g, 0, none⟩ ∧ r.hs.cap = r.hs.n ∧ lo ≤ g ∧ FRow w g 45 (r.hs.n * 2) (hpF r.hs.o)
theorem RqMade.below {w w' : World} {lo : Nat} {r : Rq} (h : RqMade w lo r) (hb : Below w.heap.size w w') : RqMade w' lo r := by
  obtain ⟨⟨g1, a1, b1, c1, d1⟩, ⟨g2, a2, b2, c2, d2⟩⟩ := h
  exact ⟨⟨g1, a1, b1, c1, d1.below hb d1.lt⟩, ⟨g2, a2, b2, c2, d2.below hb d2.lt⟩⟩
theorem RqMade.mono {w : World} {lo lo' : Nat} {r : Rq} (h : RqMade w lo r) (hb : lo' ≤ lo) : RqMade w lo' r := by
  obtain ⟨⟨g1, a1, b1, c1, d1⟩, ⟨g2, a2, b2, c2, d2⟩⟩ := h
  exact ⟨⟨g1, a1, b1, by omega, d1⟩, ⟨g2, a2, b2, by omega, d2⟩⟩
theorem RqMade.in {w : World} {lo : Nat} {r : Rq} (h : RqMade w lo r) : RqIn w r := by
  obtain ⟨mt, pt, ⟨a1, n1, c1, o1⟩, ⟨a2, n2, c2, o2⟩, bd⟩ := r
  obtain ⟨⟨g1, x1, y1, _, d1⟩, ⟨g2, x2, y2, _, d2⟩⟩ := h
  dsimp only at x1 y1 d1 x2 y2 d2
  subst x1 y1 x2 y2
  exact ⟨Hps.of_row d1, Hps.of_row d2⟩
theorem frow_setRowH {w : World} {b : Nat} {t : TypeId} {n : Nat} {f : Nat → Value} (h : FRow w b t n f) {g : Nat} (c : Array Value) (hn : b ≠ g) : FRow (w.setRow g c) b t n f := by
  obtain ⟨cs, h1, h2, h3⟩ := h; exact ⟨cs, h1.otherRow g c hn, h2, h3⟩
set_option maxRecDepth 20000 in
set_option maxHeartbeats 4000000 in
theorem toRq (r : Rq) (hs : RqB r 1048576) (w : World) (h : RqIn w r) :
    Calls Tryd.prog 6 #[.agg #[.string r.mt, .string r.pt, .slice r.qs.ad r.qs.n r.qs.cap, .slice r.hs.ad r.hs.n r.hs.cap, .string r.bd]] w fun e w' => (∃ r' : Rq, e = .returned (.agg #[.string r'.mt, .string r'.pt, .slice r'.qs.ad r'.qs.n r'.qs.cap, .slice r'.hs.ad r'.hs.n r'.hs.cap, .string r'.bd]) ∧ RqEq r r' ∧ RqMade w' w.heap.size r') ∧ Below w.heap.size w w' := by
  obtain ⟨mt, pt, ⟨a1, n1, c1, o1⟩, ⟨a2, n2, c2, o2⟩, bd⟩ := r
  dsimp only
  obtain ⟨W1, hW1⟩ : ∃ W, W = ((w.alloc (.cells #[.string mt, .string pt, .slice a1 n1 c1, .slice a2 n2 c2, .string bd] 24)).alloc (.cells #[.string ⟨#[]⟩, .string ⟨#[]⟩, .slice none 0 0, .slice none 0 0, .string ⟨#[]⟩] 29)).alloc (.cells #[.string mt, .string pt, .slice none 0 0, .slice none 0 0, .string ⟨#[]⟩] 29) := ⟨_, rfl⟩
  have A1 : Hid (RowAt W1 w.heap.size 24 #[.string mt, .string pt, .slice a1 n1 c1, .slice a2 n2 c2, .string bd]) := by rw [hW1]; exact ((RowAt.new _ _ _).alloc _).alloc _
  have R1 : Hid (RowAt W1 (w.heap.size + 1) 29 #[.string ⟨#[]⟩, .string ⟨#[]⟩, .slice none 0 0, .slice none 0 0, .string ⟨#[]⟩]) := by rw [hW1]; exact (RowAt.next _ _ _ (by rw [size_al])).alloc _
  have O1 : Hid (RowAt W1 (w.heap.size + 1 + 1) 29 #[.string mt, .string pt, .slice none 0 0, .slice none 0 0, .string ⟨#[]⟩]) := by rw [hW1]; exact RowAt.next _ _ _ (by simp only [size_al])
  have B1 : Hid (Below w.heap.size w W1) := by rw [hW1]; exact (((Below.refl _ _).alloc (Nat.le_refl _) _).alloc (by simp) _).alloc (by simp; omega) _
  have Z1 : Hid (w.heap.size + 1 + 1 < W1.heap.size) := O1.out.lt
  have HH := hid h
  have HS := hid hs
  clear h hs
  go_enter Tryd.func6, Tryd.ntmps6
  go_wp2_with fail
  rw [← hW1]
  clear hW1
  refine (toHps a1 n1 c1 o1 HS.out.qs.1 W1 (HH.out.qs.below B1.out)).mono ?_
  rintro e v1 ⟨rfl, hF, hb⟩
  obtain ⟨g1, hg⟩ : ∃ g, g = W1.heap.size := ⟨_, rfl⟩
  rw [← hg] at hF
  have FN := hid hF
  have gz1 : Hid (w.heap.size + 1 + 1 < g1) := by rw [hg]; exact Z1.out
  have AN := hid (A1.out.below hb (by have := Z1.out; omega))
  have RN := hid (R1.out.below hb (by have := Z1.out; omega))
  have ON := hid (O1.out.below hb Z1.out)
  have BN := hid (B1.out.trans (hb.mono B1.out.size))
  rw [← hg]
  clear hF hb hg A1 R1 O1 B1
  have ok := ON.out.cell 2
  have fk := ON.out.free 2
  obtain ⟨W2, hW2⟩ : ∃ W, W = v1.setCell ⟨w.heap.size + 1 + 1, 2, none⟩ (.slice (some ⟨g1, 0, none⟩) n1 n1) := ⟨_, rfl⟩
  have A2 : Hid (RowAt W2 w.heap.size 24 #[.string mt, .string pt, .slice a1 n1 c1, .slice a2 n2 c2, .string bd]) := by rw [hW2]; exact AN.out.other _ _ (by dsimp only; omega)
  have R2 : Hid (RowAt W2 (w.heap.size + 1) 29 #[.string ⟨#[]⟩, .string ⟨#[]⟩, .slice none 0 0, .slice none 0 0, .string ⟨#[]⟩]) := by rw [hW2]; exact RN.out.other _ _ (by dsimp only; omega)
  have O2 : Hid (RowAt W2 (w.heap.size + 1 + 1) 29 #[.string mt, .string pt, .slice (some ⟨g1, 0, none⟩) n1 n1, .slice none 0 0, .string ⟨#[]⟩]) := by rw [hW2]; exact ON.out.set 2 _
  have B2 : Hid (Below w.heap.size w W2) := by rw [hW2]; exact BN.out.setCell (by dsimp only; omega) _
  have Z2 : Hid (w.heap.size + 1 + 1 < W2.heap.size) := O2.out.lt
  have G1 : Hid (FRow W2 g1 45 (n1 * 2) (hpF o1)) := by rw [hW2]; exact FN.out.other _ _ (by have := gz1.out; dsimp only; omega)
  clear FN
  clear AN RN ON BN
  go_upto_region 5 with fail
  rw [← hW2]
  clear hW2 ok fk
  have p3 := A2.out.cell 3
  go_wp2_with fail
  clear p3
  refine (toHps a2 n2 c2 o2 HS.out.hs.1 W2 (HH.out.hs.below B2.out)).mono ?_
  rintro e v2 ⟨rfl, hF, hb⟩
  obtain ⟨g2, hg⟩ : ∃ g, g = W2.heap.size := ⟨_, rfl⟩
  rw [← hg] at hF
  have FN := hid hF
  have gz2 : Hid (w.heap.size + 1 + 1 < g2) := by rw [hg]; exact Z2.out
  have AN := hid (A2.out.below hb (by have := Z2.out; omega))
  have RN := hid (R2.out.below hb (by have := Z2.out; omega))
  have ON := hid (O2.out.below hb Z2.out)
  have BN := hid (B2.out.trans (hb.mono B2.out.size))
  rw [← hg]
  replace G1 := hid (G1.out.below hb G1.out.lt)
  clear hF hb hg A2 R2 O2 B2
  have ok := ON.out.cell 3
  have fk := ON.out.free 3
  obtain ⟨W3, hW3⟩ : ∃ W, W = v2.setCell ⟨w.heap.size + 1 + 1, 3, none⟩ (.slice (some ⟨g2, 0, none⟩) n2 n2) := ⟨_, rfl⟩
  have A3 : Hid (RowAt W3 w.heap.size 24 #[.string mt, .string pt, .slice a1 n1 c1, .slice a2 n2 c2, .string bd]) := by rw [hW3]; exact AN.out.other _ _ (by dsimp only; omega)
  have R3 : Hid (RowAt W3 (w.heap.size + 1) 29 #[.string ⟨#[]⟩, .string ⟨#[]⟩, .slice none 0 0, .slice none 0 0, .string ⟨#[]⟩]) := by rw [hW3]; exact RN.out.other _ _ (by dsimp only; omega)
  have O3 : Hid (RowAt W3 (w.heap.size + 1 + 1) 29 #[.string mt, .string pt, .slice (some ⟨g1, 0, none⟩) n1 n1, .slice (some ⟨g2, 0, none⟩) n2 n2, .string ⟨#[]⟩]) := by rw [hW3]; exact ON.out.set 3 _
  have B3 : Hid (Below w.heap.size w W3) := by rw [hW3]; exact BN.out.setCell (by dsimp only; omega) _
  have Z3 : Hid (w.heap.size + 1 + 1 < W3.heap.size) := O3.out.lt
  replace G1 : Hid (FRow W3 g1 45 (n1 * 2) (hpF o1)) := by rw [hW3]; exact G1.out.other _ _ (by have := gz1.out; dsimp only; omega)
  have G2 : Hid (FRow W3 g2 45 (n2 * 2) (hpF o2)) := by rw [hW3]; exact FN.out.other _ _ (by have := gz2.out; dsimp only; omega)
  clear FN
  clear AN RN ON BN
  go_upto_region 6 with fail
  rw [← hW3]
  clear hW3 ok fk
  have px := A3.out.cell 4
  have AN := A3
  have RN := R3
  have ON := O3
  have BN := B3
  clear A3 R3 O3 B3
  have ok := ON.out.cell 4
  have fk := ON.out.free 4
  obtain ⟨W4, hW4⟩ : ∃ W, W = W3.setCell ⟨w.heap.size + 1 + 1, 4, none⟩ (.string bd) := ⟨_, rfl⟩
  have A4 : Hid (RowAt W4 w.heap.size 24 #[.string mt, .string pt, .slice a1 n1 c1, .slice a2 n2 c2, .string bd]) := by rw [hW4]; exact AN.out.other _ _ (by dsimp only; omega)
  have R4 : Hid (RowAt W4 (w.heap.size + 1) 29 #[.string ⟨#[]⟩, .string ⟨#[]⟩, .slice none 0 0, .slice none 0 0, .string ⟨#[]⟩]) := by rw [hW4]; exact RN.out.other _ _ (by dsimp only; omega)
  have O4 : Hid (RowAt W4 (w.heap.size + 1 + 1) 29 #[.string mt, .string pt, .slice (some ⟨g1, 0, none⟩) n1 n1, .slice (some ⟨g2, 0, none⟩) n2 n2, .string bd]) := by rw [hW4]; exact ON.out.set 4 _
  have B4 : Hid (Below w.heap.size w W4) := by rw [hW4]; exact BN.out.setCell (by dsimp only; omega) _
  have Z4 : Hid (w.heap.size + 1 + 1 < W4.heap.size) := O4.out.lt
  replace G1 : Hid (FRow W4 g1 45 (n1 * 2) (hpF o1)) := by rw [hW4]; exact G1.out.other _ _ (by have := gz1.out; dsimp only; omega)
  replace G2 : Hid (FRow W4 g2 45 (n2 * 2) (hpF o2)) := by rw [hW4]; exact G2.out.other _ _ (by have := gz2.out; dsimp only; omega)
  clear AN RN ON BN
  go_upto_region 7 with fail
  rw [← hW4]
  clear hW4 ok fk px
  have q0 := O4.out.cell 0
  have q1 := O4.out.cell 1
  have q2 := O4.out.cell 2
  have q3 := O4.out.cell 3
  have q4 := O4.out.cell 4
  go_wp2_with (refine wpList_store_row rfl 29 (.tmp 2) (.tmp 21) rfl (w.heap.size + 1) #[.string mt, .string pt, .slice (some ⟨g1, 0, none⟩) n1 n1, .slice (some ⟨g2, 0, none⟩) n2 n2, .string bd] rfl rfl _ _ R4.out (by kernel_rfl) rfl (by simp [Value.oneCell']) ?_)
  have r6 := R4.out.setRow #[.string mt, .string pt, .slice (some ⟨g1, 0, none⟩) n1 n1, .slice (some ⟨g2, 0, none⟩) n2 n2, .string bd]
  refine bodyPost_ret (v := .agg #[.string mt, .string pt, .slice (some ⟨g1, 0, none⟩) n1 n1, .slice (some ⟨g2, 0, none⟩) n2 n2, .string bd]) ?_ rfl ?_
  · exact results_cell_row Tryd.results6 _ _ (w.heap.size + 1) _ _ _ _ rfl r6 Tryd.underlying29 rfl (by kernel_rfl)
  · refine ⟨⟨⟨mt, pt, ⟨some ⟨g1, 0, none⟩, n1, n1, o1⟩, ⟨some ⟨g2, 0, none⟩, n2, n2, o2⟩, bd⟩, rfl, ⟨rfl, rfl, rfl, rfl, rfl, rfl, rfl⟩, ?_⟩, ?_⟩
    · exact ⟨⟨g1, rfl, rfl, by have := gz1.out; omega, frow_setRowH G1.out _ (by have := gz1.out; omega)⟩, ⟨g2, rfl, rfl, by have := gz2.out; omega, frow_setRowH G2.out _ (by have := gz2.out; omega)⟩⟩
    · exact below_setRow B4.out _ _ (by omega)
end Go.Proofs.YtgjkhjpkdkcnfabDoor
