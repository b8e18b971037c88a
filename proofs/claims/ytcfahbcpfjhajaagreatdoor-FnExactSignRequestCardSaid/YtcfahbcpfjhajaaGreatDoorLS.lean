import Derived.Test.YtcfahbcpfjhajaaGreatDoorL1
import Derived.Test.YtcfahbcpfjhajaaGreatDoorK1
import Derived.Test.YtcfahbcpfjhajaaGreatDoorK1
import Derived.Test.YtcfahbcpfjhajaaGreatDoorK1
import Derived.WalkLawsBesides
import Derived.WalkSpells
import Derived.OpenShut
import Derived.BigQuiet
import Derived.Deep.QuietTactic
import Derived.Deep.RegionHeld3
import Derived.Deep.CutRange
import Derived.Test.YtcfahbcpfjhajaaGreatDoorStrK
import Derived.Test.YtcfahbcpfjhajaaGreatDoorLwR
namespace Go.Proofs.YtcfahbcpfjhajaaGreatDoor
open Go.RowKit
/-! Requests made anew. -/
structure RqMade (w : World) (lo : Nat) (r : Rq) : Prop where
  qs : ∃ g, r.qs.ad = some ⟨g, 0, none⟩ ∧ r.qs.cap = r.qs.n ∧ lo ≤ g ∧ FRow w g 66 (r.qs.n * 2) (hpF r.qs.o)
  hs : ∃ g, r.hs.ad = some ⟨g, 0, none⟩ ∧ r.hs.cap = r.hs.n ∧ lo ≤ g ∧ FRow w g 66 (r.hs.n * 2) (hpF r.hs.o)
theorem RqMade.below {w w' : World} {lo : Nat} {r : Rq} (h : RqMade w lo r) (hb : Below w.heap.size w w') : RqMade w' lo r := by
  obtain ⟨⟨g1, a1, b1, c1, d1⟩, ⟨g2, a2, b2, c2, d2⟩⟩ := h
  exact ⟨⟨g1, a1, b1, c1, d1.below hb d1.lt⟩, ⟨g2, a2, b2, c2, d2.below hb d2.lt⟩⟩
theorem RqMade.mono {w : World} {lo lo' : Nat} {r : Rq} (h : RqMade w lo r) (hb : lo' ≤ lo) : RqMade w lo' r := by
  obtain ⟨⟨g1, a1, b1, c1, d1⟩, ⟨g2, a2, b2, c2, d2⟩⟩ := h
  exact ⟨⟨g1, a1, b1, by omega, d1⟩, ⟨g2, a2, b2, by omega, d2⟩⟩
theorem RqMade.in {w : World} {lo : Nat} {r : Rq} (h : RqMade w lo r) : RqIn w r := by
  obtain ⟨mt, pt, ⟨a1, n1, c1, o1⟩, ⟨a2, n2, c2, o2⟩, bd⟩ := r
  obtain ⟨⟨g1, x1, y1, _, d1⟩, ⟨g2, x2, y2, _, d2⟩⟩ := h
  dsimp only at x1 y1 d1 x2 y2 d2
  subst x1 y1 x2 y2
  exact ⟨Hps.of_row d1, Hps.of_row d2⟩
theorem frow_setRowH {w : World} {b : Nat} {t : TypeId} {n : Nat} {f : Nat → Value} (h : FRow w b t n f) {g : Nat} (c : Array Value) (hn : b ≠ g) : FRow (w.setRow g c) b t n f := by
  obtain ⟨cs, h1, h2, h3⟩ := h; exact ⟨cs, h1.otherRow g c hn, h2, h3⟩
set_option maxRecDepth 20000 in
set_option maxHeartbeats 4000000 in
theorem toRq (r : Rq) (hs : RqB r 1048576) (w : World) (h : RqIn w r) :
    Calls Tryz.prog 19 #[.agg #[.string r.mt, .string r.pt, .slice r.qs.ad r.qs.n r.qs.cap, .slice r.hs.ad r.hs.n r.hs.cap, .string r.bd]] w fun e w' => (∃ r' : Rq, e = .returned (.agg #[.string r'.mt, .string r'.pt, .slice r'.qs.ad r'.qs.n r'.qs.cap, .slice r'.hs.ad r'.hs.n r'.hs.cap, .string r'.bd]) ∧ RqEq r r' ∧ RqMade w' w.heap.size r') ∧ Below w.heap.size w w' := by
  obtain ⟨mt, pt, ⟨a1, n1, c1, o1⟩, ⟨a2, n2, c2, o2⟩, bd⟩ := r
  dsimp only
  obtain ⟨W1, hW1⟩ : ∃ W, W = ((w.alloc (.cells #[.string mt, .string pt, .slice a1 n1 c1, .slice a2 n2 c2, .string bd] 44)).alloc (.cells #[.string ⟨#[]⟩, .string ⟨#[]⟩, .slice none 0 0, .slice none 0 0, .string ⟨#[]⟩] 25)).alloc (.cells #[.string mt, .string pt, .slice none 0 0, .slice none 0 0, .string ⟨#[]⟩] 25) := ⟨_, rfl⟩
  have A1 : Hid (RowAt W1 w.heap.size 44 #[.string mt, .string pt, .slice a1 n1 c1, .slice a2 n2 c2, .string bd]) := by rw [hW1]; exact ((RowAt.new _ _ _).alloc _).alloc _
  have R1 : Hid (RowAt W1 (w.heap.size + 1) 25 #[.string ⟨#[]⟩, .string ⟨#[]⟩, .slice none 0 0, .slice none 0 0, .string ⟨#[]⟩]) := by rw [hW1]; exact (RowAt.next _ _ _ (by rw [size_al])).alloc _
  have O1 : Hid (RowAt W1 (w.heap.size + 1 + 1) 25 #[.string mt, .string pt, .slice none 0 0, .slice none 0 0, .string ⟨#[]⟩]) := by rw [hW1]; exact RowAt.next _ _ _ (by simp only [size_al])
  have B1 : Hid (Below w.heap.size w W1) := by rw [hW1]; exact (((Below.refl _ _).alloc (Nat.le_refl _) _).alloc (by simp) _).alloc (by simp; omega) _
  have Z1 : Hid (w.heap.size + 1 + 1 < W1.heap.size) := O1.out.lt
  have HH := hid h
  have HS := hid hs
  clear h hs
  go_enter Tryz.func19, Tryz.ntmps19
  go_wp2_with fail
  rw [← hW1]
  clear hW1
  refine (toHps a1 n1 c1 o1 HS.out.qs.1 W1 (HH.out.qs.below B1.out)).mono ?_
  rintro e v1 ⟨rfl, hF, hb⟩
  obtain ⟨g1, hg⟩ : ∃ g, g = W1.heap.size := ⟨_, rfl⟩
  rw [← hg] at hF
  have FN := hid hF
  have gz1 : Hid (w.heap.size + 1 + 1 < g1) := by rw [hg]; exact Z1.out
  have AN := hid (A1.out.below hb (by have := Z1.out; omega))
  have RN := hid (R1.out.below hb (by have := Z1.out; omega))
  have ON := hid (O1.out.below hb Z1.out)
  have BN := hid (B1.out.trans (hb.mono B1.out.size))
  rw [← hg]
  clear hF hb hg A1 R1 O1 B1
  have ok := ON.out.cell 2
  have fk := ON.out.free 2
  obtain ⟨W2, hW2⟩ : ∃ W, W = v1.setCell ⟨w.heap.size + 1 + 1, 2, none⟩ (.slice (some ⟨g1, 0, none⟩) n1 n1) := ⟨_, rfl⟩
  have A2 : Hid (RowAt W2 w.heap.size 44 #[.string mt, .string pt, .slice a1 n1 c1, .slice a2 n2 c2, .string bd]) := by rw [hW2]; exact AN.out.other _ _ (by dsimp only; omega)
  have R2 : Hid (RowAt W2 (w.heap.size + 1) 25 #[.string ⟨#[]⟩, .string ⟨#[]⟩, .slice none 0 0, .slice none 0 0, .string ⟨#[]⟩]) := by rw [hW2]; exact RN.out.other _ _ (by dsimp only; omega)
  have O2 : Hid (RowAt W2 (w.heap.size + 1 + 1) 25 #[.string mt, .string pt, .slice (some ⟨g1, 0, none⟩) n1 n1, .slice none 0 0, .string ⟨#[]⟩]) := by rw [hW2]; exact ON.out.set 2 _
  have B2 : Hid (Below w.heap.size w W2) := by rw [hW2]; exact BN.out.setCell (by dsimp only; omega) _
  have Z2 : Hid (w.heap.size + 1 + 1 < W2.heap.size) := O2.out.lt
  have G1 : Hid (FRow W2 g1 66 (n1 * 2) (hpF o1)) := by rw [hW2]; exact FN.out.other _ _ (by have := gz1.out; dsimp only; omega)
  clear FN
  clear AN RN ON BN
  go_upto_region 5 with fail
  rw [← hW2]
  clear hW2 ok fk
  have p3 := A2.out.cell 3
  go_wp2_with fail
  clear p3
  refine (toHps a2 n2 c2 o2 HS.out.hs.1 W2 (HH.out.hs.below B2.out)).mono ?_
  rintro e v2 ⟨rfl, hF, hb⟩
  obtain ⟨g2, hg⟩ : ∃ g, g = W2.heap.size := ⟨_, rfl⟩
  rw [← hg] at hF
  have FN := hid hF
  have gz2 : Hid (w.heap.size + 1 + 1 < g2) := by rw [hg]; exact Z2.out
  have AN := hid (A2.out.below hb (by have := Z2.out; omega))
  have RN := hid (R2.out.below hb (by have := Z2.out; omega))
  have ON := hid (O2.out.below hb Z2.out)
  have BN := hid (B2.out.trans (hb.mono B2.out.size))
  rw [← hg]
  replace G1 := hid (G1.out.below hb G1.out.lt)
  clear hF hb hg A2 R2 O2 B2
  have ok := ON.out.cell 3
  have fk := ON.out.free 3
  obtain ⟨W3, hW3⟩ : ∃ W, W = v2.setCell ⟨w.heap.size + 1 + 1, 3, none⟩ (.slice (some ⟨g2, 0, none⟩) n2 n2) := ⟨_, rfl⟩
  have A3 : Hid (RowAt W3 w.heap.size 44 #[.string mt, .string pt, .slice a1 n1 c1, .slice a2 n2 c2, .string bd]) := by rw [hW3]; exact AN.out.other _ _ (by dsimp only; omega)
  have R3 : Hid (RowAt W3 (w.heap.size + 1) 25 #[.string ⟨#[]⟩, .string ⟨#[]⟩, .slice none 0 0, .slice none 0 0, .string ⟨#[]⟩]) := by rw [hW3]; exact RN.out.other _ _ (by dsimp only; omega)
  have O3 : Hid (RowAt W3 (w.heap.size + 1 + 1) 25 #[.string mt, .string pt, .slice (some ⟨g1, 0, none⟩) n1 n1, .slice (some ⟨g2, 0, none⟩) n2 n2, .string ⟨#[]⟩]) := by rw [hW3]; exact ON.out.set 3 _
  have B3 : Hid (Below w.heap.size w W3) := by rw [hW3]; exact BN.out.setCell (by dsimp only; omega) _
  have Z3 : Hid (w.heap.size + 1 + 1 < W3.heap.size) := O3.out.lt
  replace G1 : Hid (FRow W3 g1 66 (n1 * 2) (hpF o1)) := by rw [hW3]; exact G1.out.other _ _ (by have := gz1.out; dsimp only; omega)
  have G2 : Hid (FRow W3 g2 66 (n2 * 2) (hpF o2)) := by rw [hW3]; exact FN.out.other _ _ (by have := gz2.out; dsimp only; omega)
  clear FN
  clear AN RN ON BN
  go_upto_region 6 with fail
  rw [← hW3]
  clear hW3 ok fk
  have px := A3.out.cell 4
  have AN := A3
  have RN := R3
  have ON := O3
  have BN := B3
  clear A3 R3 O3 B3
  have ok := ON.out.cell 4
  have fk := ON.out.free 4
  obtain ⟨W4, hW4⟩ : ∃ W, W = W3.setCell ⟨w.heap.size + 1 + 1, 4, none⟩ (.string bd) := ⟨_, rfl⟩
  have A4 : Hid (RowAt W4 w.heap.size 44 #[.string mt, .string pt, .slice a1 n1 c1, .slice a2 n2 c2, .string bd]) := by rw [hW4]; exact AN.out.other _ _ (by dsimp only; omega)
  have R4 : Hid (RowAt W4 (w.heap.size + 1) 25 #[.string ⟨#[]⟩, .string ⟨#[]⟩, .slice none 0 0, .slice none 0 0, .string ⟨#[]⟩]) := by rw [hW4]; exact RN.out.other _ _ (by dsimp only; omega)
  have O4 : Hid (RowAt W4 (w.heap.size + 1 + 1) 25 #[.string mt, .string pt, .slice (some ⟨g1, 0, none⟩) n1 n1, .slice (some ⟨g2, 0, none⟩) n2 n2, .string bd]) := by rw [hW4]; exact ON.out.set 4 _
  have B4 : Hid (Below w.heap.size w W4) := by rw [hW4]; exact BN.out.setCell (by dsimp only; omega) _
  have Z4 : Hid (w.heap.size + 1 + 1 < W4.heap.size) := O4.out.lt
  replace G1 : Hid (FRow W4 g1 66 (n1 * 2) (hpF o1)) := by rw [hW4]; exact G1.out.other _ _ (by have := gz1.out; dsimp only; omega)
  replace G2 : Hid (FRow W4 g2 66 (n2 * 2) (hpF o2)) := by rw [hW4]; exact G2.out.other _ _ (by have := gz2.out; dsimp only; omega)
  clear AN RN ON BN
  go_upto_region 7 with fail
  rw [← hW4]
  clear hW4 ok fk px
  have q0 := O4.out.cell 0
  have q1 := O4.out.cell 1
  have q2 := O4.out.cell 2
  have q3 := O4.out.cell 3
  have q4 := O4.out.cell 4
  go_wp2_with (refine wpList_store_row rfl 25 (.tmp 2) (.tmp 21) rfl (w.heap.size + 1) #[.string mt, .string pt, .slice (some ⟨g1, 0, none⟩) n1 n1, .slice (some ⟨g2, 0, none⟩) n2 n2, .string bd] rfl rfl _ _ R4.out (by kernel_rfl) rfl (by simp [Value.oneCell']) ?_)
  have r6 := R4.out.setRow #[.string mt, .string pt, .slice (some ⟨g1, 0, none⟩) n1 n1, .slice (some ⟨g2, 0, none⟩) n2 n2, .string bd]
  refine bodyPost_ret (v := .agg #[.string mt, .string pt, .slice (some ⟨g1, 0, none⟩) n1 n1, .slice (some ⟨g2, 0, none⟩) n2 n2, .string bd]) ?_ rfl ?_
  · exact results_cell_row Tryz.results19 _ _ (w.heap.size + 1) _ _ _ _ rfl r6 Tryz.underlying25 rfl (by kernel_rfl)
  · refine ⟨⟨⟨mt, pt, ⟨some ⟨g1, 0, none⟩, n1, n1, o1⟩, ⟨some ⟨g2, 0, none⟩, n2, n2, o2⟩, bd⟩, rfl, ⟨rfl, rfl, rfl, rfl, rfl, rfl, rfl⟩, ?_⟩, ?_⟩
    · exact ⟨⟨g1, rfl, rfl, by have := gz1.out; omega, frow_setRowH G1.out _ (by have := gz1.out; omega)⟩, ⟨g2, rfl, rfl, by have := gz2.out; omega, frow_setRowH G2.out _ (by have := gz2.out; omega)⟩⟩
    · exact below_setRow B4.out _ _ (by omega)
end Go.Proofs.YtcfahbcpfjhajaaGreatDoor
namespace Go.Proofs.YtcfahbcpfjhajaaGreatDoor
open Go.RowKit
/-! AccessKey: what the laws do with one (by lawrow.py). -/
structure Ak where
  id : ByteArray
  sec : ByteArray
def Ak.row (o : Ak) : Array Value := #[.string (o).id, .string (o).sec]
/-- the cells of a row of them -/
def akF (o : Nat → Ak) (p : Nat) : Value :=
  if p % 2 = 0 then .string (o (p / 2)).id else .string (o (p / 2)).sec
theorem akF0 (o : Nat → Ak) (k : Nat) : akF o (k * 2) = .string (o k).id := by unfold akF; rw [if_pos (by omega), show (k * 2) / 2 = k by omega]
theorem akF1 (o : Nat → Ak) (k : Nat) : akF o (k * 2 + 1) = .string (o k).sec := by unfold akF; rw [if_neg (by omega), show (k * 2 + 1) / 2 = k by omega]
/-- a slice of them that is read -/
def Aks (w : World) (a : Option Addr) (n cap : Nat) (o : Nat → Ak) : Prop :=
  n ≤ cap ∧ (n = 0 ∨ ∃ b off, a = some ⟨b, off, none⟩ ∧ b < w.heap.size ∧ ∀ k, k < n → w.cell? ⟨b, off + k * 2, none⟩ = some (.string (o k).id) ∧ w.cell? ⟨b, off + k * 2 + 1, none⟩ = some (.string (o k).sec))
theorem Aks.below {w w' : World} {a : Option Addr} {n cap : Nat} {o : Nat → Ak} (h : Aks w a n cap o) (hb : Below w.heap.size w w') : Aks w' a n cap o := by
  refine ⟨h.1, ?_⟩
  rcases h.2 with h0 | ⟨b, off, rfl, h1, h2⟩
  · exact Or.inl h0
  · refine Or.inr ⟨b, off, rfl, Nat.lt_of_lt_of_le h1 hb.size, fun k hk => ?_⟩
    obtain ⟨c0, c1⟩ := h2 k hk
    exact ⟨(hb.cell (p := ⟨b, _, none⟩) h1).trans c0, (hb.cell (p := ⟨b, _, none⟩) h1).trans c1⟩
theorem Aks.of_row {w : World} {b : Nat} {t : TypeId} {n : Nat} {o : Nat → Ak} (h : FRow w b t (n * 2) (akF o)) : Aks w (some ⟨b, 0, none⟩) n n o := by
  refine ⟨Nat.le_refl _, Or.inr ⟨b, 0, rfl, h.lt, fun k hk => ?_⟩⟩
  have g0 := h.cell (show k * 2 < n * 2 by omega)
  have g1 := h.cell (show k * 2 + 1 < n * 2 by omega)
  rw [akF0] at g0
  rw [akF1] at g1
  simp only [Nat.zero_add]
  exact ⟨g0, g1⟩
theorem balAk {w w' : World} (h : Below w.heap.size w w') (o : Obj) : Below w.heap.size w (w'.alloc o) := h.alloc h.size o
set_option maxRecDepth 20000 in
set_option maxHeartbeats 1000000 in
theorem sz1Ak (p0 : ByteArray) (p1 : ByteArray) (l : Int) (hl : l ≤ 1048576) (hl0 : 0 ≤ l) (h0 : p0.size ≤ 9223372036854775807) (h1 : p1.size ≤ 9223372036854775807) (w : World) :
    Calls Tryz.prog 17 #[.agg #[.string p0, .string p1], .int .i64 l] w fun e w' => e = .returned (.int .i64 (if (p0.size : Int) + p1.size ≤ l then l - p0.size - p1.size else -1)) ∧ Below w.heap.size w w' := by
  by_cases g0 : l - (p0.size : Int) < 0
  · rw [if_neg (by omega)]
    go_enter Tryz.func17, Tryz.ntmps17
    go_wp2
    go_ret
    exact ⟨rfl, (Below.refl _ _).alloc (Nat.le_refl _) _⟩
  ·
    by_cases g1 : l - (p0.size : Int) - (p1.size : Int) < 0
    · rw [if_neg (by omega)]
      go_enter Tryz.func17, Tryz.ntmps17
      go_wp2
      go_ret
      exact ⟨rfl, (Below.refl _ _).alloc (Nat.le_refl _) _⟩
    · rw [if_pos (by omega)]
      go_enter Tryz.func17, Tryz.ntmps17
      go_wp2
      go_ret
      exact ⟨rfl, (Below.refl _ _).alloc (Nat.le_refl _) _⟩
theorem oneAk (p0 : ByteArray) (p1 : ByteArray) : (#[.string p0, .string p1] : Array Value).all (·.oneCell') = true := by simp [Value.oneCell']
set_option maxRecDepth 20000 in
set_option maxHeartbeats 2000000 in
theorem to1Ak (p0 : ByteArray) (p1 : ByteArray) (w : World) :
    Calls Tryz.prog 20 #[.agg #[.string p0, .string p1]] w fun e w' => e = .returned (.agg #[.string p0, .string p1]) ∧ Below w.heap.size w w' := by
  obtain ⟨W0, hW0⟩ : ∃ W, W = (((w.alloc (.cells #[.string p0, .string p1] 45)).alloc (.cells #[.string ⟨#[]⟩, .string ⟨#[]⟩] 27)).alloc (.cells #[.string ⟨#[]⟩, .string ⟨#[]⟩] 27)) := ⟨_, rfl⟩
  have A0 : RowAt W0 w.heap.size 45 #[.string p0, .string p1] := by rw [hW0]; exact ((RowAt.new _ _ _).alloc _).alloc _
  have R0 : RowAt W0 (w.heap.size + 1) 27 #[.string ⟨#[]⟩, .string ⟨#[]⟩] := by rw [hW0]; exact (RowAt.next _ _ _ (by rw [size_al])).alloc _
  have O0 : RowAt W0 (w.heap.size + 1 + 1) 27 #[.string ⟨#[]⟩, .string ⟨#[]⟩] := by rw [hW0]; exact RowAt.next _ _ _ (by simp only [size_al])
  have B0 : Below w.heap.size w W0 := by rw [hW0]; exact balAk (balAk (balAk (Below.refl _ _) _) _) _
  obtain ⟨W1, hW1⟩ : ∃ W, W = W0.setCell ⟨w.heap.size + 1 + 1, 0, none⟩ (.string p0) := ⟨_, rfl⟩
  have A1 : RowAt W1 w.heap.size 45 #[.string p0, .string p1] := by rw [hW1]; exact A0.other _ _ (by simp; omega)
  have R1 : RowAt W1 (w.heap.size + 1) 27 #[.string ⟨#[]⟩, .string ⟨#[]⟩] := by rw [hW1]; exact R0.other _ _ (by simp)
  have O1 : RowAt W1 (w.heap.size + 1 + 1) 27 #[.string p0, .string ⟨#[]⟩] := by rw [hW1]; exact O0.set 0 _
  have B1 : Below w.heap.size w W1 := by rw [hW1]; exact B0.setCell (by simp; omega) _
  have a0 : W0.cell? ⟨w.heap.size, 0, none⟩ = some (.string p0) := A0.cell 0
  have o0 : W0.cell? ⟨w.heap.size + 1 + 1, 0, none⟩ = some (.string ⟨#[]⟩) := O0.cell 0
  have f0 := O0.free 0
  obtain ⟨W2, hW2⟩ : ∃ W, W = W1.setCell ⟨w.heap.size + 1 + 1, 1, none⟩ (.string p1) := ⟨_, rfl⟩
  have A2 : RowAt W2 w.heap.size 45 #[.string p0, .string p1] := by rw [hW2]; exact A1.other _ _ (by simp; omega)
  have R2 : RowAt W2 (w.heap.size + 1) 27 #[.string ⟨#[]⟩, .string ⟨#[]⟩] := by rw [hW2]; exact R1.other _ _ (by simp)
  have O2 : RowAt W2 (w.heap.size + 1 + 1) 27 #[.string p0, .string p1] := by rw [hW2]; exact O1.set 1 _
  have B2 : Below w.heap.size w W2 := by rw [hW2]; exact B1.setCell (by simp; omega) _
  have a1 : W1.cell? ⟨w.heap.size, 1, none⟩ = some (.string p1) := A1.cell 1
  have o1 : W1.cell? ⟨w.heap.size + 1 + 1, 1, none⟩ = some (.string ⟨#[]⟩) := O1.cell 1
  have f1 := O1.free 1
  have HW0 := hid hW0
  have HW1 := hid hW1
  have HW2 := hid hW2
  have q0 : W2.cell? ⟨w.heap.size + 1 + 1, 0, none⟩ = some (.string p0) := O2.cell 0
  have q1 : W2.cell? ⟨w.heap.size + 1 + 1, 1, none⟩ = some (.string p1) := O2.cell 1
  have HR := hid R2
  have HB := hid B2
  clear hW0 A0 R0 O0 B0 hW1 A1 R1 O1 B1 hW2 A2 R2 O2 B2
  go_enter Tryz.func20, Tryz.ntmps20
  go_upto_region 2 with fail
  rw [← HW0.out]
  go_upto_region 3 with fail
  rw [← HW1.out]
  clear a0 o0 f0
  go_upto_region 4 with fail
  rw [← HW2.out]
  clear a1 o1 f1
  go_wp2_with (refine wpList_store_row rfl 27 (.tmp 2) (.tmp 10) rfl (w.heap.size + 1) #[.string p0, .string p1] rfl rfl _ _ HR.out (by kernel_rfl) rfl (oneAk _ _) ?_)
  refine bodyPost_ret (v := .agg #[.string p0, .string p1]) ?_ rfl ⟨rfl, below_setRow HB.out _ _ (by omega)⟩
  exact results_cell_row Tryz.results20 _ _ (w.heap.size + 1) _ _ _ _ rfl (HR.out.setRow _) Tryz.underlying27 rfl (by kernel_rfl)
end Go.Proofs.YtcfahbcpfjhajaaGreatDoor
namespace Go.Proofs.YtcfahbcpfjhajaaGreatDoor
open Go.RowKit
/-! Slices of texts: their marks (out of LawStr, for rows longer than what is shown). -/
set_option maxRecDepth 20000 in
set_option maxHeartbeats 2000000 in
theorem markStr (b len cap N k0 : Nat) (t : TypeId) (hN : len ≤ N) (f : Nat → Value) (h1 : 1 ≤ k0) (hl : len ≤ 1048576) (hk : k0 ≤ 536870912) (w : World) (h : FRow w b t N f) :
    Calls Tryz.prog 25 #[.slice (some ⟨b, 0, none⟩) len cap, .int .i64 k0] w fun e w' => e = .returned (.int .i64 ((k0 + len : Nat) : Int)) ∧ FRow w' b t N (fun i => if i < len then .string (markB (k0 + i)) else f i) ∧ w.grownBy w' (some b) := by
  have HH := hid h
  clear h
  go_enter Tryz.func25, Tryz.ntmps25
  go_wp2_with fail
  go_loopw [5, 1] (fun x y wr => ∃ (k : Nat), k ≤ len ∧ x = .int .i64 k ∧ y = .int .i64 ((k0 + k : Nat) : Int) ∧ FRow wr b t N (fun i => if i < k then .string (markB (k0 + i)) else f i) ∧ w.grownBy wr (some b)) (fun x _ _ => len - (intOf x).toNat)
  case atStart => exact ⟨0, Nat.zero_le _, rfl, rfl, HH.out.congr fun p _ => by rw [if_neg (by omega)], below_grown (Below.refl _ _) _⟩
  case round =>
    obtain ⟨k, hkl, rfl, rfl, hF, hG⟩ := hrel
    have HF := hid hF
    have HG := hid hG
    clear hF hG HH
    by_cases hlt : k < len
    · have hlt' : (k : Int) < (len : Int) := by omega
      have i0 : (0 : Int) ≤ (k : Int) := by omega
      go_wp2_with fail
      refine (markT (k0 + k) (by omega) (by omega) _).mono ?_
      rintro e w2 ⟨rfl, hb2⟩
      have F2 := hid (HF.out.below hb2 HF.out.lt)
      have G2 := hid (grown_trans HG.out (below_grown hb2 (some b)))
      have k1 := F2.out.cell (show k < N by omega)
      have f1 := F2.out.free k
      obtain ⟨x1, hx1⟩ : ∃ x : Value, x = (if k < k then .string (markB (k0 + k)) else f k) := ⟨_, rfl⟩
      rw [← hx1] at k1
      obtain ⟨m, hm⟩ : ∃ m, m = markB (k0 + k) := ⟨_, rfl⟩
      have N1 : Hid (FRow (w2.setCell ⟨b, k, none⟩ (.string m)) b t N (fun i => if i < k + 1 then .string (markB (k0 + i)) else f i)) := (F2.out.set _ _).congr fun p _ => by
        unfold putF
        by_cases e : p = k
        · rw [if_pos e, if_pos (show p < k + 1 by omega), e, hm]
        · rw [if_neg e]
          show (if p < k then _ else _) = if p < k + 1 then _ else _
          by_cases e2 : p < k
          · rw [if_pos e2, if_pos (show p < k + 1 by omega)]
          · rw [if_neg e2, if_neg (show ¬ p < k + 1 by omega)]
      have N2 : Hid (w.grownBy (w2.setCell ⟨b, k, none⟩ (.string m)) (some b)) := grown_trans G2.out grown_set
      rw [← hm]
      clear hx1 hm HF HG hb2 F2 G2
      go_wp2
      go_roundw
      case rel => exact ⟨k + 1, by omega, by go_num, by go_num, N1.out, N2.out⟩
      case measure => simp [intOf]; omega
    · have hke : k = len := by omega
      have FE : Hid (FRow wr b t N (fun i => if i < len then .string (markB (k0 + i)) else f i)) := HF.out.congr fun p hp => by rw [hke]
      have hlt' : ¬ (k : Int) < (len : Int) := by omega
      subst hke
      clear HF
      go_wp2
      go_ret
      exact ⟨rfl, FE.out, HG.out⟩
end Go.Proofs.YtcfahbcpfjhajaaGreatDoor
namespace Go.Proofs.YtcfahbcpfjhajaaGreatDoor
open Go.RowKit
/-! A request that was made anew, marked: what stays as it was. -/
set_option maxRecDepth 20000 in
set_option maxHeartbeats 2000000 in
theorem markMade (r : Rq) (hB : RqB r 1048576) (lo k0 : Nat) (hk : 1 ≤ k0) (hk2 : k0 ≤ 10000) (w : World) (h : RqMade w lo r) :
    Calls Tryz.prog 24 #[.agg #[.string r.mt, .string r.pt, .slice r.qs.ad r.qs.n r.qs.cap, .slice r.hs.ad r.hs.n r.hs.cap, .string r.bd], .int .i64 k0] w fun e w' => e = .returned (.int .i64 ((k0 + 2 * r.qs.n + 2 * r.hs.n : Nat) : Int)) ∧ w'.os = w.os ∧ w'.tape = w.tape ∧ w'.output = w.output ∧ w.heap.size ≤ w'.heap.size ∧ ∀ j, j < w.heap.size → (∀ g o, r.qs.ad = some ⟨g, o, none⟩ → j ≠ g) → (∀ g o, r.hs.ad = some ⟨g, o, none⟩ → j ≠ g) → w'.heap[j]? = w.heap[j]? := by
  obtain ⟨mt, pt, ⟨a1, n1, c1, o1⟩, ⟨a2, n2, c2, o2⟩, bd⟩ := r
  obtain ⟨⟨g1, e1, e1', _, f1⟩, ⟨g2, e2, e2', _, f2⟩⟩ := h
  have b1 : n1 ≤ 1048576 := hB.qs.1
  have b2 : n2 ≤ 1048576 := hB.hs.1
  dsimp only at e1 e2 e1' e2' f1 f2 ⊢
  subst e1 e2 e1' e2'
  have F1 := hid f1
  have F2 := hid f2
  clear f1 f2 hB
  obtain ⟨W0, hW0⟩ : ∃ W, W = w.alloc (.cells #[.string mt, .string pt, .slice (some ⟨g1, 0, none⟩) c1 c1, .slice (some ⟨g2, 0, none⟩) c2 c2, .string bd] 25) := ⟨_, rfl⟩
  have R0 : Hid (RowAt W0 w.heap.size 25 #[.string mt, .string pt, .slice (some ⟨g1, 0, none⟩) c1 c1, .slice (some ⟨g2, 0, none⟩) c2 c2, .string bd]) := by rw [hW0]; exact RowAt.new _ _ _
  have B0 : Hid (Below w.heap.size w W0) := by rw [hW0]; exact (Below.refl _ _).alloc (Nat.le_refl _) _
  have G1 : Hid (FRow W0 g1 66 (c1 * 2) (hpF o1)) := F1.out.below B0.out F1.out.lt
  have G2 : Hid (FRow W0 g2 66 (c2 * 2) (hpF o2)) := F2.out.below B0.out F2.out.lt
  have l1 : g1 < w.heap.size := F1.out.lt
  have l2 : g2 < w.heap.size := F2.out.lt
  have x2 := R0.out.cell 2
  go_enter Tryz.func24, Tryz.ntmps24
  go_wp2_with fail
  rw [← hW0]
  clear hW0 x2
  refine (markHps g1 c1 c1 k0 _ (c1 * 2) (by omega) _ hk b1 (by omega) W0 G1.out).mono ?_
  rintro e w1 ⟨rfl, hF1, hg1⟩
  have R1 : Hid (RowAt w1 w.heap.size 25 #[.string mt, .string pt, .slice (some ⟨g1, 0, none⟩) c1 c1, .slice (some ⟨g2, 0, none⟩) c2 c2, .string bd]) := row_grown R0.out hg1 (by simp; omega)
  have N2 : ∃ f', FRow w1 g2 66 (c2 * 2) f' := by
    by_cases e : g2 = g1
    · subst e
      obtain ⟨cs, q1, q2, _⟩ := G1.out
      obtain ⟨cs', p1, p2, _⟩ := G2.out
      have := Option.some.inj (Eq.trans (Eq.symm q1) p1)
      injection this with t1
      subst t1
      rw [← p2, q2]
      exact ⟨_, hF1⟩
    · exact ⟨_, G2.out.far hg1 (by simpa using e)⟩
  obtain ⟨f', hF2⟩ := N2
  have FF2 := hid hF2
  have HG1 := hid hg1
  have z1 : w.heap.size ≤ w1.heap.size := Nat.le_trans B0.out.size hg1.size
  clear hF1 hg1 hF2 R0 G1 G2
  obtain ⟨K1, hK1⟩ : ∃ K, K = k0 + 2 * c1 := ⟨_, rfl⟩
  rw [← hK1]
  have kb1 : 1 ≤ K1 := by omega
  have kb2 : K1 ≤ 4194304 := by omega
  have kz : ((k0 : Int) + 2 * (c1 : Int)) = (K1 : Int) := by omega
  replace hK1 := hid hK1
  replace kz := hid kz
  have x3 := R1.out.cell 3
  go_wp2_with fail
  refine (markHps g2 c2 c2 K1 _ (c2 * 2) (by omega) _ kb1 b2 kb2 w1 FF2.out).mono ?_
  rintro e w2 ⟨rfl, _, hg2⟩
  have HG2 := hid hg2
  have KE : Hid (K1 + 2 * c2 = k0 + 2 * c1 + 2 * c2) := by show _ = _; rw [hK1.out]
  clear hg2 x3 FF2 hK1
  go_wp2
  go_ret
  refine ⟨by rw [← KE.out]; rfl, HG2.out.os.trans (HG1.out.os.trans B0.out.os), HG2.out.tape.trans (HG1.out.tape.trans B0.out.tape), HG2.out.output.trans (HG1.out.output.trans B0.out.output), Nat.le_trans z1 HG2.out.size, fun j hj h1 h2 => ?_⟩
  have n1 := h1 g1 0 rfl
  have n2 := h2 g2 0 rfl
  exact (HG2.out.block j (by omega) (by simpa using n2)).trans ((HG1.out.block j (by have := B0.out.size; omega) (by simpa using n1)).trans (B0.out.block j hj))
end Go.Proofs.YtcfahbcpfjhajaaGreatDoor
