import Derived.Test.YtjfmjcdopokkaaaDoorLawSt
namespace Go.Proofs.YtjfmjcdopokkaaaDoor
open Go.RowKit
/-! Statements made anew. -/
structure Made (w : World) (lo : Nat) (s : St) : Prop where
  wo : ∃ g, s.wo.ad = some ⟨g, 0, none⟩ ∧ s.wo.cap = s.wo.n ∧ lo ≤ g ∧ FRow w g 9 s.wo.n (fun i => .string (s.wo.ts i))
  wa : ∃ g, s.wa.ad = some ⟨g, 0, none⟩ ∧ s.wa.cap = s.wa.n ∧ lo ≤ g ∧ FRow w g 9 s.wa.n (fun i => .string (s.wa.ts i))
  wi : ∃ g, s.wi.ad = some ⟨g, 0, none⟩ ∧ s.wi.cap = s.wi.n ∧ lo ≤ g ∧ FRow w g 9 s.wi.n (fun i => .string (s.wi.ts i))
  cs : ∃ g, s.cs.ad = some ⟨g, 0, none⟩ ∧ s.cs.cap = s.cs.n ∧ lo ≤ g ∧ FRow w g 53 (s.cs.n * 3) (cnF s.cs.o)
theorem Made.below {w w' : World} {lo : Nat} {s : St} (h : Made w lo s) (hb : Below w.heap.size w w') : Made w' lo s := by
  obtain ⟨⟨g1, a1, b1, c1, d1⟩, ⟨g2, a2, b2, c2, d2⟩, ⟨g3, a3, b3, c3, d3⟩, ⟨g4, a4, b4, c4, d4⟩⟩ := h
  exact ⟨⟨g1, a1, b1, c1, d1.below hb d1.lt⟩, ⟨g2, a2, b2, c2, d2.below hb d2.lt⟩, ⟨g3, a3, b3, c3, d3.below hb d3.lt⟩, ⟨g4, a4, b4, c4, d4.below hb d4.lt⟩⟩
theorem Made.other {w : World} {lo b o : Nat} {s : St} (h : Made w lo s) (v : Value) (hb : b < lo) : Made (w.setCell ⟨b, o, none⟩ v) lo s := by
  obtain ⟨⟨g1, a1, b1, c1, d1⟩, ⟨g2, a2, b2, c2, d2⟩, ⟨g3, a3, b3, c3, d3⟩, ⟨g4, a4, b4, c4, d4⟩⟩ := h
  exact ⟨⟨g1, a1, b1, c1, d1.other _ _ (by dsimp only; omega)⟩, ⟨g2, a2, b2, c2, d2.other _ _ (by dsimp only; omega)⟩, ⟨g3, a3, b3, c3, d3.other _ _ (by dsimp only; omega)⟩, ⟨g4, a4, b4, c4, d4.other _ _ (by dsimp only; omega)⟩⟩
theorem Made.mono {w : World} {lo lo' : Nat} {s : St} (h : Made w lo s) (hb : lo' ≤ lo) : Made w lo' s := by
  obtain ⟨⟨g1, a1, b1, c1, d1⟩, ⟨g2, a2, b2, c2, d2⟩, ⟨g3, a3, b3, c3, d3⟩, ⟨g4, a4, b4, c4, d4⟩⟩ := h
  exact ⟨⟨g1, a1, b1, by omega, d1⟩, ⟨g2, a2, b2, by omega, d2⟩, ⟨g3, a3, b3, by omega, d3⟩, ⟨g4, a4, b4, by omega, d4⟩⟩
theorem Made.in {w : World} {lo : Nat} {s : St} (h : Made w lo s) : StIn w s := by
  obtain ⟨f, ⟨a1, n1, c1, t1⟩, ⟨a2, n2, c2, t2⟩, ⟨a3, n3, c3, t3⟩, ⟨a4, n4, c4, o4⟩⟩ := s
  obtain ⟨⟨g1, x1, y1, _, d1⟩, ⟨g2, x2, y2, _, d2⟩, ⟨g3, x3, y3, _, d3⟩, ⟨g4, x4, y4, _, d4⟩⟩ := h
  dsimp only at x1 y1 d1 x2 y2 d2 x3 y3 d3 x4 y4 d4
  subst x1 y1 x2 y2 x3 y3 x4 y4
  exact ⟨d1.strs, d2.strs, d3.strs, Cns.of_row d4⟩
theorem frow_setRow {w : World} {b : Nat} {t : TypeId} {n : Nat} {f : Nat → Value} (h : FRow w b t n f) {g : Nat} (c : Array Value) (hn : b ≠ g) : FRow (w.setRow g c) b t n f := by
  obtain ⟨cs, h1, h2, h3⟩ := h; exact ⟨cs, h1.otherRow g c hn, h2, h3⟩
theorem oneSt (f : Int) (a1 : Option Addr) (n1 c1 : Nat) (a2 : Option Addr) (n2 c2 : Nat) (a3 : Option Addr) (n3 c3 : Nat) (a4 : Option Addr) (n4 c4 : Nat) : (#[.int .i64 f, .slice a1 n1 c1, .slice a2 n2 c2, .slice a3 n3 c3, .slice a4 n4 c4] : Array Value).all (·.oneCell') = true := by simp [Value.oneCell']
set_option maxRecDepth 20000 in
set_option maxHeartbeats 4000000 in
theorem toSt (s : St) (hs : StB s 1048576) (w : World) (h : StIn w s) :
    Calls Tryd.prog 36 #[.agg #[.int .i64 s.ef, .slice s.wo.ad s.wo.n s.wo.cap, .slice s.wa.ad s.wa.n s.wa.cap, .slice s.wi.ad s.wi.n s.wi.cap, .slice s.cs.ad s.cs.n s.cs.cap]] w fun e w' => (∃ s' : St, e = .returned (.agg #[.int .i64 s'.ef, .slice s'.wo.ad s'.wo.n s'.wo.cap, .slice s'.wa.ad s'.wa.n s'.wa.cap, .slice s'.wi.ad s'.wi.n s'.wi.cap, .slice s'.cs.ad s'.cs.n s'.cs.cap]) ∧ StEq s s' ∧ Made w' w.heap.size s') ∧ Below w.heap.size w w' := by
  obtain ⟨f, ⟨a1, n1, c1, t1⟩, ⟨a2, n2, c2, t2⟩, ⟨a3, n3, c3, t3⟩, ⟨a4, n4, c4, o4⟩⟩ := s
  dsimp only
  obtain ⟨W1, hW1⟩ : ∃ W, W = ((w.alloc (.cells #[.int .i64 f, .slice a1 n1 c1, .slice a2 n2 c2, .slice a3 n3 c3, .slice a4 n4 c4] 64)).alloc (.cells #[.int .i64 0, .slice none 0 0, .slice none 0 0, .slice none 0 0, .slice none 0 0] 33)).alloc (.cells #[.int .i64 f, .slice none 0 0, .slice none 0 0, .slice none 0 0, .slice none 0 0] 33) := ⟨_, rfl⟩
  have A1 : Hid (RowAt W1 w.heap.size 64 #[.int .i64 f, .slice a1 n1 c1, .slice a2 n2 c2, .slice a3 n3 c3, .slice a4 n4 c4]) := by rw [hW1]; exact ((RowAt.new _ _ _).alloc _).alloc _
  have R1 : Hid (RowAt W1 (w.heap.size + 1) 33 #[.int .i64 0, .slice none 0 0, .slice none 0 0, .slice none 0 0, .slice none 0 0]) := by rw [hW1]; exact (RowAt.next _ _ _ (by rw [size_al])).alloc _
  have O1 : Hid (RowAt W1 (w.heap.size + 1 + 1) 33 #[.int .i64 f, .slice none 0 0, .slice none 0 0, .slice none 0 0, .slice none 0 0]) := by rw [hW1]; exact RowAt.next _ _ _ (by simp only [size_al])
  have B1 : Hid (Below w.heap.size w W1) := by rw [hW1]; exact balCn (balCn (balCn (Below.refl _ _) _) _) _
  have Z1 : Hid (w.heap.size + 1 + 1 < W1.heap.size) := O1.out.lt
  have HH := hid h
  have HS := hid hs
  clear h hs
  go_enter Tryd.func36, Tryd.ntmps36
  go_wp2_with fail
  rw [← hW1]
  clear hW1
  refine (toStr a1 n1 c1 t1 HS.out.wo.1 W1 (HH.out.wo.below B1.out)).mono ?_
  rintro e v1 ⟨rfl, hF1, hb1⟩
  obtain ⟨g1, hg1⟩ : ∃ g, g = W1.heap.size := ⟨_, rfl⟩
  rw [← hg1] at hF1
  have FN := hid hF1
  have gz1 : Hid (w.heap.size + 1 + 1 < g1) := by rw [hg1]; exact Z1.out
  have AN := hid (A1.out.below hb1 (by have := Z1.out; omega))
  have RN := hid (R1.out.below hb1 (by have := Z1.out; omega))
  have ON := hid (O1.out.below hb1 Z1.out)
  have BN := hid (B1.out.trans (hb1.mono B1.out.size))
  rw [← hg1]
  have ok := ON.out.cell 1
  have fk := ON.out.free 1
  clear hF1 hb1 hg1 A1 R1 O1 B1
  obtain ⟨W2, hW2⟩ : ∃ W, W = v1.setCell ⟨w.heap.size + 1 + 1, 1, none⟩ (.slice (some ⟨g1, 0, none⟩) n1 n1) := ⟨_, rfl⟩
  have A2 : Hid (RowAt W2 w.heap.size 64 #[.int .i64 f, .slice a1 n1 c1, .slice a2 n2 c2, .slice a3 n3 c3, .slice a4 n4 c4]) := by rw [hW2]; exact AN.out.other _ _ (by dsimp only; omega)
  have R2 : Hid (RowAt W2 (w.heap.size + 1) 33 #[.int .i64 0, .slice none 0 0, .slice none 0 0, .slice none 0 0, .slice none 0 0]) := by rw [hW2]; exact RN.out.other _ _ (by dsimp only; omega)
  have O2 : Hid (RowAt W2 (w.heap.size + 1 + 1) 33 #[.int .i64 f, .slice (some ⟨g1, 0, none⟩) n1 n1, .slice none 0 0, .slice none 0 0, .slice none 0 0]) := by rw [hW2]; exact ON.out.set 1 _
  have B2 : Hid (Below w.heap.size w W2) := by rw [hW2]; exact BN.out.setCell (by dsimp only; omega) _
  have Z2 : Hid (w.heap.size + 1 + 1 < W2.heap.size) := O2.out.lt
  have G1 : Hid (FRow W2 g1 9 n1 (fun i => .string (t1 i))) := by rw [hW2]; exact FN.out.other _ _ (by have := gz1.out; dsimp only; omega)
  clear AN RN ON BN FN
  go_upto_region 4 with fail
  rw [← hW2]
  clear hW2 ok fk
  have p2 := A2.out.cell 2
  go_wp2_with fail
  clear p2
  refine (toStr a2 n2 c2 t2 HS.out.wa.1 W2 (HH.out.wa.below B2.out)).mono ?_
  rintro e v2 ⟨rfl, hF2, hb2⟩
  obtain ⟨g2, hg2⟩ : ∃ g, g = W2.heap.size := ⟨_, rfl⟩
  rw [← hg2] at hF2
  have FN := hid hF2
  have gz2 : Hid (w.heap.size + 1 + 1 < g2) := by rw [hg2]; exact Z2.out
  have AN := hid (A2.out.below hb2 (by have := Z2.out; omega))
  have RN := hid (R2.out.below hb2 (by have := Z2.out; omega))
  have ON := hid (O2.out.below hb2 Z2.out)
  have BN := hid (B2.out.trans (hb2.mono B2.out.size))
  rw [← hg2]
  have ok := ON.out.cell 2
  have fk := ON.out.free 2
  have G1n := hid (G1.out.below hb2 G1.out.lt)
  clear G1
  clear hF2 hb2 hg2 A2 R2 O2 B2
  obtain ⟨W3, hW3⟩ : ∃ W, W = v2.setCell ⟨w.heap.size + 1 + 1, 2, none⟩ (.slice (some ⟨g2, 0, none⟩) n2 n2) := ⟨_, rfl⟩
  have A3 : Hid (RowAt W3 w.heap.size 64 #[.int .i64 f, .slice a1 n1 c1, .slice a2 n2 c2, .slice a3 n3 c3, .slice a4 n4 c4]) := by rw [hW3]; exact AN.out.other _ _ (by dsimp only; omega)
  have R3 : Hid (RowAt W3 (w.heap.size + 1) 33 #[.int .i64 0, .slice none 0 0, .slice none 0 0, .slice none 0 0, .slice none 0 0]) := by rw [hW3]; exact RN.out.other _ _ (by dsimp only; omega)
  have O3 : Hid (RowAt W3 (w.heap.size + 1 + 1) 33 #[.int .i64 f, .slice (some ⟨g1, 0, none⟩) n1 n1, .slice (some ⟨g2, 0, none⟩) n2 n2, .slice none 0 0, .slice none 0 0]) := by rw [hW3]; exact ON.out.set 2 _
  have B3 : Hid (Below w.heap.size w W3) := by rw [hW3]; exact BN.out.setCell (by dsimp only; omega) _
  have Z3 : Hid (w.heap.size + 1 + 1 < W3.heap.size) := O3.out.lt
  have G2 : Hid (FRow W3 g2 9 n2 (fun i => .string (t2 i))) := by rw [hW3]; exact FN.out.other _ _ (by have := gz2.out; dsimp only; omega)
  have G1 : Hid (FRow W3 g1 9 n1 (fun i => .string (t1 i))) := by rw [hW3]; exact G1n.out.other _ _ (by have := gz1.out; dsimp only; omega)
  clear G1n
  clear AN RN ON BN FN
  go_upto_region 5 with fail
  rw [← hW3]
  clear hW3 ok fk
  have p3 := A3.out.cell 3
  go_wp2_with fail
  clear p3
  refine (toStr a3 n3 c3 t3 HS.out.wi.1 W3 (HH.out.wi.below B3.out)).mono ?_
  rintro e v3 ⟨rfl, hF3, hb3⟩
  obtain ⟨g3, hg3⟩ : ∃ g, g = W3.heap.size := ⟨_, rfl⟩
  rw [← hg3] at hF3
  have FN := hid hF3
  have gz3 : Hid (w.heap.size + 1 + 1 < g3) := by rw [hg3]; exact Z3.out
  have AN := hid (A3.out.below hb3 (by have := Z3.out; omega))
  have RN := hid (R3.out.below hb3 (by have := Z3.out; omega))
  have ON := hid (O3.out.below hb3 Z3.out)
  have BN := hid (B3.out.trans (hb3.mono B3.out.size))
  rw [← hg3]
  have ok := ON.out.cell 3
  have fk := ON.out.free 3
  have G1n := hid (G1.out.below hb3 G1.out.lt)
  clear G1
  have G2n := hid (G2.out.below hb3 G2.out.lt)
  clear G2
  clear hF3 hb3 hg3 A3 R3 O3 B3
  obtain ⟨W4, hW4⟩ : ∃ W, W = v3.setCell ⟨w.heap.size + 1 + 1, 3, none⟩ (.slice (some ⟨g3, 0, none⟩) n3 n3) := ⟨_, rfl⟩
  have A4 : Hid (RowAt W4 w.heap.size 64 #[.int .i64 f, .slice a1 n1 c1, .slice a2 n2 c2, .slice a3 n3 c3, .slice a4 n4 c4]) := by rw [hW4]; exact AN.out.other _ _ (by dsimp only; omega)
  have R4 : Hid (RowAt W4 (w.heap.size + 1) 33 #[.int .i64 0, .slice none 0 0, .slice none 0 0, .slice none 0 0, .slice none 0 0]) := by rw [hW4]; exact RN.out.other _ _ (by dsimp only; omega)
  have O4 : Hid (RowAt W4 (w.heap.size + 1 + 1) 33 #[.int .i64 f, .slice (some ⟨g1, 0, none⟩) n1 n1, .slice (some ⟨g2, 0, none⟩) n2 n2, .slice (some ⟨g3, 0, none⟩) n3 n3, .slice none 0 0]) := by rw [hW4]; exact ON.out.set 3 _
  have B4 : Hid (Below w.heap.size w W4) := by rw [hW4]; exact BN.out.setCell (by dsimp only; omega) _
  have Z4 : Hid (w.heap.size + 1 + 1 < W4.heap.size) := O4.out.lt
  have G3 : Hid (FRow W4 g3 9 n3 (fun i => .string (t3 i))) := by rw [hW4]; exact FN.out.other _ _ (by have := gz3.out; dsimp only; omega)
  have G1 : Hid (FRow W4 g1 9 n1 (fun i => .string (t1 i))) := by rw [hW4]; exact G1n.out.other _ _ (by have := gz1.out; dsimp only; omega)
  clear G1n
  have G2 : Hid (FRow W4 g2 9 n2 (fun i => .string (t2 i))) := by rw [hW4]; exact G2n.out.other _ _ (by have := gz2.out; dsimp only; omega)
  clear G2n
  clear AN RN ON BN FN
  go_upto_region 6 with fail
  rw [← hW4]
  clear hW4 ok fk
  have p4 := A4.out.cell 4
  go_wp2_with fail
  clear p4
  refine (toCns a4 n4 c4 o4 HS.out.cs.1 W4 (HH.out.cs.below B4.out)).mono ?_
  rintro e v4 ⟨rfl, hF4, hb4⟩
  obtain ⟨g4, hg4⟩ : ∃ g, g = W4.heap.size := ⟨_, rfl⟩
  rw [← hg4] at hF4
  have FN := hid hF4
  have gz4 : Hid (w.heap.size + 1 + 1 < g4) := by rw [hg4]; exact Z4.out
  have AN := hid (A4.out.below hb4 (by have := Z4.out; omega))
  have RN := hid (R4.out.below hb4 (by have := Z4.out; omega))
  have ON := hid (O4.out.below hb4 Z4.out)
  have BN := hid (B4.out.trans (hb4.mono B4.out.size))
  rw [← hg4]
  have ok := ON.out.cell 4
  have fk := ON.out.free 4
  have G1n := hid (G1.out.below hb4 G1.out.lt)
  clear G1
  have G2n := hid (G2.out.below hb4 G2.out.lt)
  clear G2
  have G3n := hid (G3.out.below hb4 G3.out.lt)
  clear G3
  clear hF4 hb4 hg4 A4 R4 O4 B4
  obtain ⟨W5, hW5⟩ : ∃ W, W = v4.setCell ⟨w.heap.size + 1 + 1, 4, none⟩ (.slice (some ⟨g4, 0, none⟩) n4 n4) := ⟨_, rfl⟩
  have A5 : Hid (RowAt W5 w.heap.size 64 #[.int .i64 f, .slice a1 n1 c1, .slice a2 n2 c2, .slice a3 n3 c3, .slice a4 n4 c4]) := by rw [hW5]; exact AN.out.other _ _ (by dsimp only; omega)
  have R5 : Hid (RowAt W5 (w.heap.size + 1) 33 #[.int .i64 0, .slice none 0 0, .slice none 0 0, .slice none 0 0, .slice none 0 0]) := by rw [hW5]; exact RN.out.other _ _ (by dsimp only; omega)
  have O5 : Hid (RowAt W5 (w.heap.size + 1 + 1) 33 #[.int .i64 f, .slice (some ⟨g1, 0, none⟩) n1 n1, .slice (some ⟨g2, 0, none⟩) n2 n2, .slice (some ⟨g3, 0, none⟩) n3 n3, .slice (some ⟨g4, 0, none⟩) n4 n4]) := by rw [hW5]; exact ON.out.set 4 _
  have B5 : Hid (Below w.heap.size w W5) := by rw [hW5]; exact BN.out.setCell (by dsimp only; omega) _
  have Z5 : Hid (w.heap.size + 1 + 1 < W5.heap.size) := O5.out.lt
  have G4 : Hid (FRow W5 g4 53 (n4 * 3) (cnF o4)) := by rw [hW5]; exact FN.out.other _ _ (by have := gz4.out; dsimp only; omega)
  have G1 : Hid (FRow W5 g1 9 n1 (fun i => .string (t1 i))) := by rw [hW5]; exact G1n.out.other _ _ (by have := gz1.out; dsimp only; omega)
  clear G1n
  have G2 : Hid (FRow W5 g2 9 n2 (fun i => .string (t2 i))) := by rw [hW5]; exact G2n.out.other _ _ (by have := gz2.out; dsimp only; omega)
  clear G2n
  have G3 : Hid (FRow W5 g3 9 n3 (fun i => .string (t3 i))) := by rw [hW5]; exact G3n.out.other _ _ (by have := gz3.out; dsimp only; omega)
  clear G3n
  clear AN RN ON BN FN
  go_upto_region 7 with fail
  rw [← hW5]
  clear hW5 ok fk
  have q0 := O5.out.cell 0
  have q1 := O5.out.cell 1
  have q2 := O5.out.cell 2
  have q3 := O5.out.cell 3
  have q4 := O5.out.cell 4
  go_wp2_with (refine wpList_store_row rfl 33 (.tmp 2) (.tmp 23) rfl (w.heap.size + 1) #[.int .i64 f, .slice (some ⟨g1, 0, none⟩) n1 n1, .slice (some ⟨g2, 0, none⟩) n2 n2, .slice (some ⟨g3, 0, none⟩) n3 n3, .slice (some ⟨g4, 0, none⟩) n4 n4] rfl rfl _ _ R5.out (by kernel_rfl) rfl (oneSt _ _ _ _ _ _ _ _ _ _ _ _ _) ?_)
  have r6 := R5.out.setRow #[.int .i64 f, .slice (some ⟨g1, 0, none⟩) n1 n1, .slice (some ⟨g2, 0, none⟩) n2 n2, .slice (some ⟨g3, 0, none⟩) n3 n3, .slice (some ⟨g4, 0, none⟩) n4 n4]
  refine bodyPost_ret (v := .agg #[.int .i64 f, .slice (some ⟨g1, 0, none⟩) n1 n1, .slice (some ⟨g2, 0, none⟩) n2 n2, .slice (some ⟨g3, 0, none⟩) n3 n3, .slice (some ⟨g4, 0, none⟩) n4 n4]) ?_ rfl ?_
  · exact results_cell_row Tryd.results36 _ _ (w.heap.size + 1) _ _ _ _ rfl r6 Tryd.underlying33 rfl (by kernel_rfl)
  · refine ⟨⟨⟨f, ⟨some ⟨g1, 0, none⟩, n1, n1, t1⟩, ⟨some ⟨g2, 0, none⟩, n2, n2, t2⟩, ⟨some ⟨g3, 0, none⟩, n3, n3, t3⟩, ⟨some ⟨g4, 0, none⟩, n4, n4, o4⟩⟩, rfl, ⟨rfl, rfl, rfl, rfl, rfl, rfl, rfl, rfl, rfl⟩, ?_⟩, ?_⟩
    · exact ⟨⟨g1, rfl, rfl, by have := gz1.out; omega, frow_setRow G1.out _ (by have := gz1.out; omega)⟩, ⟨g2, rfl, rfl, by have := gz2.out; omega, frow_setRow G2.out _ (by have := gz2.out; omega)⟩, ⟨g3, rfl, rfl, by have := gz3.out; omega, frow_setRow G3.out _ (by have := gz3.out; omega)⟩, ⟨g4, rfl, rfl, by have := gz4.out; omega, frow_setRow G4.out _ (by have := gz4.out; omega)⟩⟩
    · exact below_setRow B5.out _ _ (by omega)
/-! Slices of statements. -/
/-- the cells of a row of them -/
def stF (R : Nat → St) (p : Nat) : Value :=
  if p % 5 = 0 then .int .i64 (R (p / 5)).ef else if p % 5 = 1 then .slice (R (p / 5)).wo.ad (R (p / 5)).wo.n (R (p / 5)).wo.cap else if p % 5 = 2 then .slice (R (p / 5)).wa.ad (R (p / 5)).wa.n (R (p / 5)).wa.cap else if p % 5 = 3 then .slice (R (p / 5)).wi.ad (R (p / 5)).wi.n (R (p / 5)).wi.cap else .slice (R (p / 5)).cs.ad (R (p / 5)).cs.n (R (p / 5)).cs.cap
theorem stF0 (R : Nat → St) (k : Nat) : stF R (k * 5) = .int .i64 (R k).ef := by unfold stF; rw [if_pos (by omega), show (k * 5) / 5 = k by omega]
theorem stF1 (R : Nat → St) (k : Nat) : stF R (k * 5 + 1) = .slice (R k).wo.ad (R k).wo.n (R k).wo.cap := by unfold stF; rw [if_neg (by omega), if_pos (by omega), show (k * 5 + 1) / 5 = k by omega]
theorem stF2 (R : Nat → St) (k : Nat) : stF R (k * 5 + 2) = .slice (R k).wa.ad (R k).wa.n (R k).wa.cap := by unfold stF; rw [if_neg (by omega), if_neg (by omega), if_pos (by omega), show (k * 5 + 2) / 5 = k by omega]
theorem stF3 (R : Nat → St) (k : Nat) : stF R (k * 5 + 3) = .slice (R k).wi.ad (R k).wi.n (R k).wi.cap := by unfold stF; rw [if_neg (by omega), if_neg (by omega), if_neg (by omega), if_pos (by omega), show (k * 5 + 3) / 5 = k by omega]
theorem stF4 (R : Nat → St) (k : Nat) : stF R (k * 5 + 4) = .slice (R k).cs.ad (R k).cs.n (R k).cs.cap := by unfold stF; rw [if_neg (by omega), if_neg (by omega), if_neg (by omega), if_neg (by omega), show (k * 5 + 4) / 5 = k by omega]
/-- the cells of one -/
def StCell (w : World) (b o : Nat) (s : St) : Prop :=
  w.cell? ⟨b, o, none⟩ = some (.int .i64 s.ef) ∧ w.cell? ⟨b, o + 1, none⟩ = some (.slice s.wo.ad s.wo.n s.wo.cap) ∧ w.cell? ⟨b, o + 2, none⟩ = some (.slice s.wa.ad s.wa.n s.wa.cap) ∧ w.cell? ⟨b, o + 3, none⟩ = some (.slice s.wi.ad s.wi.n s.wi.cap) ∧ w.cell? ⟨b, o + 4, none⟩ = some (.slice s.cs.ad s.cs.n s.cs.cap)
def Sts (w : World) (a : Option Addr) (m cap : Nat) (R : Nat → St) : Prop :=
  m ≤ cap ∧ (m = 0 ∨ ∃ b off, a = some ⟨b, off, none⟩ ∧ b < w.heap.size ∧ ∀ k, k < m → StCell w b (off + k * 5) (R k)) ∧ ∀ k, k < m → StIn w (R k)
theorem StCell.below {w w' : World} {b o : Nat} {s : St} (h : StCell w b o s) (hb : Below w.heap.size w w') (hl : b < w.heap.size) : StCell w' b o s :=
  ⟨(hb.cell (p := ⟨b, o, none⟩) hl).trans h.1, (hb.cell (p := ⟨b, o + 1, none⟩) hl).trans h.2.1, (hb.cell (p := ⟨b, o + 2, none⟩) hl).trans h.2.2.1, (hb.cell (p := ⟨b, o + 3, none⟩) hl).trans h.2.2.2.1, (hb.cell (p := ⟨b, o + 4, none⟩) hl).trans h.2.2.2.2⟩
theorem Sts.below {w w' : World} {a : Option Addr} {m cap : Nat} {R : Nat → St} (h : Sts w a m cap R) (hb : Below w.heap.size w w') : Sts w' a m cap R := by
  refine ⟨h.1, ?_, fun k hk => (h.2.2 k hk).below hb⟩
  rcases h.2.1 with h0 | ⟨b, off, rfl, hl, hc⟩
  · exact .inl h0
  · exact .inr ⟨b, off, rfl, Nat.lt_of_lt_of_le hl hb.size, fun k hk => (hc k hk).below hb hl⟩
theorem StCell.of_row {w : World} {b : Nat} {t : TypeId} {m k : Nat} {R : Nat → St} (h : FRow w b t (m * 5) (stF R)) (hk : k < m) : StCell w b (0 + k * 5) (R k) := by
  have g0 := h.cell (p := k * 5) (by omega)
  have g1 := h.cell (p := k * 5 + 1) (by omega)
  have g2 := h.cell (p := k * 5 + 2) (by omega)
  have g3 := h.cell (p := k * 5 + 3) (by omega)
  have g4 := h.cell (p := k * 5 + 4) (by omega)
  rw [stF0] at g0
  rw [stF1] at g1
  rw [stF2] at g2
  rw [stF3] at g3
  rw [stF4] at g4
  simp only [Nat.zero_add]
  exact ⟨g0, g1, g2, g3, g4⟩
end Go.Proofs.YtjfmjcdopokkaaaDoor
