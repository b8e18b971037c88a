import Derived.Test.YtmfhkhhdcmnpdaaGrS9
import Derived.Test.YtmfhkhhdcmnpdaaTurnKit
import Derived.Deep.RegionLaw
namespace Go.Proofs.Ytmfhkhhdcmnpdaa
open Go.RowKit
set_option linter.unusedVariables false
/-! The laws' own on a group's operations (by genlawgop.py). -/
def gTot (o : Nat → Gop) : Nat → Nat
  | 0 => 0
  | k + 1 => gTot o k + (o k).pe.length + (o k).tx.size
theorem gTot_mono (o : Nat → Gop) {j k : Nat} (h : j ≤ k) : gTot o j ≤ gTot o k := by
  induction k with
  | zero => rw [Nat.le_zero.1 h]; exact Nat.le_refl _
  | succ k ih =>
    by_cases e : j = k + 1
    · rw [e]; exact Nat.le_refl _
    · have := ih (by omega); rw [gTot]; omega
theorem gTot_at (o : Nat → Gop) {n k : Nat} (h : k < n) : (o k).pe.length + (o k).tx.size ≤ gTot o n := by
  have := gTot_mono o (show k + 1 ≤ n from h)
  rw [gTot] at this
  omega
set_option maxRecDepth 20000 in
set_option maxHeartbeats 2000000 in
theorem szGop1 (kd mbr dt : Int) (pa : Option Addr) (pc : Nat) (pe : List Int) (tx : ByteArray) (L : Int) (h0 : 0 ≤ L) (h1 : L ≤ 1048576) (hp : pe.length ≤ 9223372036854775807) (ht : tx.size ≤ 9223372036854775807) (w : World) :
    Calls Try.prog 36 #[.agg #[.int .i64 kd, .int .i64 mbr, .int .i64 dt, .slice pa pe.length pc, .string tx], .int .i64 L] w fun e w' => e = .returned (.int .i64 (if (pe.length : Int) + tx.size ≤ L then L - pe.length - tx.size else -1)) ∧ Below w.heap.size w w' := by
  obtain ⟨R, hR⟩ : ∃ R, R = if (pe.length : Int) + tx.size ≤ L then L - pe.length - tx.size else -1 := ⟨_, rfl⟩
  rw [← hR]
  have HR := hid hR
  clear hR
  have K := fun w => hid (sz64 pa pe.length pc L h0 h1 hp w)
  by_cases q1 : (pe.length : Int) ≤ L
  · simp only [if_pos q1] at K
    have d1 : ¬ L - (pe.length : Int) < 0 := by omega
    by_cases q2 : (pe.length : Int) + tx.size ≤ L
    · have d2 : ¬ L - (pe.length : Int) - (tx.size : Int) < 0 := by omega
      have E : Hid (R = L - pe.length - tx.size) := hid (by rw [HR.out, if_pos q2])
      clear q1 q2
      go_enter Try.func36, Try.ntmps36
      go_wp2_with fail
      refine (K _).out.mono ?_
      rintro e w1 ⟨rfl, hw⟩
      obtain rfl := hw.symm
      clear hw
      go_wp2
      go_ret
      exact ⟨by rw [E.out]; rfl, (Below.refl _ _).alloc (Nat.le_refl _) _⟩
    · have d2 : L - (pe.length : Int) - (tx.size : Int) < 0 := by omega
      have E : Hid (R = -1) := hid (by rw [HR.out, if_neg q2])
      clear q1 q2
      go_enter Try.func36, Try.ntmps36
      go_wp2_with fail
      refine (K _).out.mono ?_
      rintro e w1 ⟨rfl, hw⟩
      obtain rfl := hw.symm
      clear hw
      go_wp2
      go_ret
      exact ⟨by rw [E.out]; rfl, (Below.refl _ _).alloc (Nat.le_refl _) _⟩
  · simp only [if_neg q1] at K
    have E : Hid (R = -1) := hid (by rw [HR.out, if_neg (by omega)])
    clear q1
    go_enter Try.func36, Try.ntmps36
    go_wp2_with fail
    refine (K _).out.mono ?_
    rintro e w1 ⟨rfl, hw⟩
    obtain rfl := hw.symm
    clear hw
    go_wp2
    go_ret
    exact ⟨by rw [E.out]; rfl, (Below.refl _ _).alloc (Nat.le_refl _) _⟩
def SzG (n : Nat) (o : Nat → Gop) (w : World) (e : Ending) (w' : World) : Prop := ∃ r : Int, e = .returned (.int .i64 r) ∧ r ≤ 1048576 ∧ (0 ≤ r → n + gTot o n ≤ 1048576) ∧ Below w.heap.size w w'
set_option maxRecDepth 20000 in
set_option maxHeartbeats 2000000 in
theorem szGops (a : Option Addr) (n cap : Nat) (o : Nat → Gop) (pa : Nat → Option Addr) (pc : Nat → Nat) (hn : n ≤ 9223372036854775807) (hs : ∀ k, k < n → (o k).pe.length ≤ 9223372036854775807 ∧ (o k).tx.size ≤ 9223372036854775807) (w : World) (h : Gops w a n cap o pa pc) :
    Calls Try.prog 14 #[.slice a n cap, .int .i64 1048576] w fun e w' => SzG n o w e w' := by
  have HH := hid h
  have HS := hid hs
  clear h hs
  by_cases hlow : (1048576 : Int) - (n : Int) < 0
  · go_enter Try.func14, Try.ntmps14
    go_wp2
    go_ret
    exact ⟨-1, rfl, by decide, fun q => absurd q (by decide), Below.refl _ _⟩
  · go_enter Try.func14, Try.ntmps14
    go_wp2_with fail
    go_loopw [1, 5] (fun y1 y5 wr => ∃ (i : Nat) (L : Int), i ≤ n ∧ y5 = .int .i64 (i : Int) ∧ y1 = .int .i64 L ∧ 0 ≤ L ∧ L ≤ 1048576 ∧ L = 1048576 - (n : Int) - (gTot o i : Int) ∧ Below w.heap.size w wr) (fun _ y5 _ => n - (intOf y5).toNat)
    case atStart => exact ⟨0, 1048576 - (n : Int), Nat.zero_le _, rfl, rfl, by omega, by omega, by simp [gTot], Below.refl _ _⟩
    case round =>
      obtain ⟨i, L, hi, rfl, rfl, hL0, hL1, hL, hB⟩ := hrel
      have BB := hid hB
      have HL := hid hL
      clear hB hL
      by_cases hlt : i < n
      · have hlt' : (i : Int) < (n : Int) := by omega
        have i0 : (0 : Int) ≤ (i : Int) := by omega
        rcases HH.out.2 with h00 | ⟨b, off, hA, hbl, hc⟩
        · omega
        subst hA
        obtain ⟨x0, x1, x2, x3, x4, x5⟩ := hc i hlt
        have c0 := (BB.out.cell (p := ⟨b, off + i * 5, none⟩) hbl).trans x0
        have c1 := (BB.out.cell (p := ⟨b, off + i * 5 + 1, none⟩) hbl).trans x1
        have c2 := (BB.out.cell (p := ⟨b, off + i * 5 + 2, none⟩) hbl).trans x2
        have c3 := (BB.out.cell (p := ⟨b, off + i * 5 + 3, none⟩) hbl).trans x3
        have c4 := (BB.out.cell (p := ⟨b, off + i * 5 + 4, none⟩) hbl).trans x4
        obtain ⟨hp1, hp2⟩ := HS.out i hlt
        have HG : Hid (gTot o (i + 1) = gTot o i + (o i).pe.length + (o i).tx.size) := hid rfl
        obtain ⟨OI, hOI⟩ : ∃ x, x = o i := ⟨_, rfl⟩
        rw [← hOI] at c0 c1 c2 c3 c4 hp1 hp2 HG
        obtain ⟨kd, mbr, dt, pe, tx⟩ := OI
        dsimp only at c0 c1 c2 c3 c4 hp1 hp2 HG
        obtain ⟨PA, hPA⟩ : ∃ x, x = pa i := ⟨_, rfl⟩
        obtain ⟨PC, hPC⟩ : ∃ x, x = pc i := ⟨_, rfl⟩
        rw [← hPA, ← hPC] at c3
        clear x0 x1 x2 x3 x4 x5 hc hOI hPA hPC
        have K := hid (szGop1 kd mbr dt PA PC pe tx L hL0 hL1 hp1 hp2 wr)
        by_cases q : (pe.length : Int) + tx.size ≤ L
        · simp only [if_pos q] at K
          have d1 : ¬ L - (pe.length : Int) - (tx.size : Int) < 0 := by omega
          have HQ := hid q
          clear q
          go_wp2_with fail
          refine K.out.mono ?_
          rintro e w2 ⟨rfl, hb2⟩
          have B2 := hid (BB.out.trans (hb2.mono BB.out.size))
          clear hb2 K c0 c1 c2 c3 c4
          go_wp2
          go_roundw
          case rel => exact ⟨i + 1, _, by omega, by go_num, rfl, by omega, by omega, by have := HL.out; have := HG.out; omega, B2.out⟩
          case measure => simp [intOf]; omega
        · simp only [if_neg q] at K
          clear q
          go_wp2_with fail
          refine K.out.mono ?_
          rintro e w2 ⟨rfl, hb2⟩
          have B2 := hid (BB.out.trans (hb2.mono BB.out.size))
          clear hb2 K c0 c1 c2 c3 c4
          go_wp2
          go_ret
          exact ⟨-1, rfl, by decide, fun q => absurd q (by decide), B2.out⟩
      · have hlt' : ¬ (i : Int) < (n : Int) := by omega
        have ei : i = n := by omega
        have HE := hid ei
        clear ei
        go_wp2
        go_ret
        exact ⟨L, rfl, hL1, fun _ => by have := HL.out; have := HE.out; subst this; omega, BB.out⟩
def gqF (o : Nat → Gop) (pq : Nat → Nat) (p : Nat) : Value :=
  if p % 5 = 0 then .int .i64 (o (p / 5)).kd else if p % 5 = 1 then .int .i64 (o (p / 5)).mb else if p % 5 = 2 then .int .i64 (o (p / 5)).dt else if p % 5 = 3 then .slice (some ⟨pq (p / 5), 0, none⟩) (o (p / 5)).pe.length (o (p / 5)).pe.length else .string (o (p / 5)).tx
theorem gqF0 (o : Nat → Gop) (pq : Nat → Nat) (k : Nat) : gqF o pq (k * 5) = .int .i64 (o k).kd := by unfold gqF; rw [if_pos (by omega), show (k * 5) / 5 = k by omega]
theorem gqF1 (o : Nat → Gop) (pq : Nat → Nat) (k : Nat) : gqF o pq (k * 5 + 1) = .int .i64 (o k).mb := by unfold gqF; rw [if_neg (by omega), if_pos (by omega), show (k * 5 + 1) / 5 = k by omega]
theorem gqF2 (o : Nat → Gop) (pq : Nat → Nat) (k : Nat) : gqF o pq (k * 5 + 2) = .int .i64 (o k).dt := by unfold gqF; rw [if_neg (by omega), if_neg (by omega), if_pos (by omega), show (k * 5 + 2) / 5 = k by omega]
theorem gqF3 (o : Nat → Gop) (pq : Nat → Nat) (k : Nat) : gqF o pq (k * 5 + 3) = .slice (some ⟨pq k, 0, none⟩) (o k).pe.length (o k).pe.length := by unfold gqF; rw [if_neg (by omega), if_neg (by omega), if_neg (by omega), if_pos (by omega), show (k * 5 + 3) / 5 = k by omega]
theorem gqF4 (o : Nat → Gop) (pq : Nat → Nat) (k : Nat) : gqF o pq (k * 5 + 4) = .string (o k).tx := by unfold gqF; rw [if_neg (by omega), if_neg (by omega), if_neg (by omega), if_neg (by omega), show (k * 5 + 4) / 5 = k by omega]
/-- operations made anew -/
structure MkG (w : World) (b n : Nat) (o : Nat → Gop) (pq : Nat → Nat) : Prop where
  row : FRow w b 42 (n * 5) (gqF o pq)
  pee : ∀ k, k < n → Wr .i64 w (pq k) 0 (o k).pe ∧ b < pq k
  ne : ∀ i j, i < n → j < n → i ≠ j → pq i ≠ pq j
theorem MkG.gops {w : World} {b n : Nat} {o : Nat → Gop} {pq : Nat → Nat} (h : MkG w b n o pq) : Gops w (some ⟨b, 0, none⟩) n n o (fun k => some ⟨pq k, 0, none⟩) (fun k => (o k).pe.length) := by
  refine ⟨Nat.le_refl _, .inr ⟨b, 0, rfl, h.row.lt, fun k hk => ?_⟩⟩
  rw [Nat.zero_add]
  refine ⟨?_, ?_, ?_, ?_, ?_, (h.pee k hk).1.ints (Nat.le_refl _)⟩
  · rw [h.row.cell (by omega), gqF0]
  · rw [h.row.cell (by omega), gqF1]
  · rw [h.row.cell (by omega), gqF2]
  · rw [h.row.cell (by omega), gqF3]
  · rw [h.row.cell (by omega), gqF4]
theorem MkG.below {w w' : World} {b n m : Nat} {o : Nat → Gop} {pq : Nat → Nat} (h : MkG w b n o pq) (hb : Below m w w') (hm : w.heap.size ≤ m) : MkG w' b n o pq :=
  ⟨h.row.below hb (Nat.lt_of_lt_of_le h.row.lt hm), fun k hk => ⟨(h.pee k hk).1.below hb (Nat.lt_of_lt_of_le (h.pee k hk).1.lt hm), (h.pee k hk).2⟩, h.ne⟩
def To1 (kd mbr dt : Int) (pe : List Int) (tx : ByteArray) (w : World) (e : Ending) (w' : World) : Prop := ∃ b, e = .returned (.agg #[.int .i64 kd, .int .i64 mbr, .int .i64 dt, .slice (some ⟨b, 0, none⟩) pe.length pe.length, .string tx]) ∧ Wr .i64 w' b 0 pe ∧ w.heap.size ≤ b ∧ Below w.heap.size w w'
theorem oneGop (kd mbr dt : Int) (a : Option Addr) (n c : Nat) (tx : ByteArray) : (#[.int .i64 kd, .int .i64 mbr, .int .i64 dt, .slice a n c, .string tx] : Array Value).all (·.oneCell') = true := by simp [Value.oneCell']
set_option maxRecDepth 20000 in
set_option maxHeartbeats 4000000 in
theorem toGop1 (kd mbr dt : Int) (pa : Option Addr) (pc : Nat) (pe : List Int) (tx : ByteArray) (hp : pe.length ≤ 1048576) (w : World) (h : Ints .i64 w pa pe.length pc pe) :
    Calls Try.prog 37 #[.agg #[.int .i64 kd, .int .i64 mbr, .int .i64 dt, .slice pa pe.length pc, .string tx]] w fun e w' => To1 kd mbr dt pe tx w e w' := by
  obtain ⟨X, hX⟩ : ∃ X, X = w.heap.size := ⟨_, rfl⟩
  obtain ⟨W1, hW1⟩ : ∃ W, W = ((w.alloc (.cells #[.int .i64 kd, .int .i64 mbr, .int .i64 dt, .slice pa pe.length pc, .string tx] 86)).alloc (.cells #[.int .i64 0, .int .i64 0, .int .i64 0, .slice none 0 0, .string ⟨#[]⟩] 42)).alloc (.cells #[.int .i64 0, .int .i64 0, .int .i64 0, .slice none 0 0, .string ⟨#[]⟩] 42) := ⟨_, rfl⟩
  have A1 : RowAt W1 X 86 #[.int .i64 kd, .int .i64 mbr, .int .i64 dt, .slice pa pe.length pc, .string tx] := by rw [hW1, hX]; exact ((RowAt.new _ _ _).alloc _).alloc _
  have R1 : RowAt W1 (X + 1) 42 #[.int .i64 0, .int .i64 0, .int .i64 0, .slice none 0 0, .string ⟨#[]⟩] := by rw [hW1, hX]; exact (RowAt.next _ _ _ (by rw [size_al])).alloc _
  have O1 : RowAt W1 (X + 1 + 1) 42 #[.int .i64 0, .int .i64 0, .int .i64 0, .slice none 0 0, .string ⟨#[]⟩] := by rw [hW1, hX]; exact RowAt.next _ _ _ (by simp only [size_al])
  have B1 : Below X w W1 := by rw [hW1, hX]; exact balGe (balGe (balGe (Below.refl _ _) _) _) _
  obtain ⟨W2, hW2⟩ : ∃ W, W = ((W1.setCell ⟨X + 1 + 1, 0, none⟩ (.int .i64 kd)).setCell ⟨X + 1 + 1, 1, none⟩ (.int .i64 mbr)).setCell ⟨X + 1 + 1, 2, none⟩ (.int .i64 dt) := ⟨_, rfl⟩
  have A2 : Hid (RowAt W2 X 86 #[.int .i64 kd, .int .i64 mbr, .int .i64 dt, .slice pa pe.length pc, .string tx]) := by rw [hW2]; exact ((A1.other _ _ (by simp; omega)).other _ _ (by simp; omega)).other _ _ (by simp; omega)
  have R2 : Hid (RowAt W2 (X + 1) 42 #[.int .i64 0, .int .i64 0, .int .i64 0, .slice none 0 0, .string ⟨#[]⟩]) := by rw [hW2]; exact ((R1.other _ _ (by simp)).other _ _ (by simp)).other _ _ (by simp)
  have O2 : Hid (RowAt W2 (X + 1 + 1) 42 #[.int .i64 kd, .int .i64 mbr, .int .i64 dt, .slice none 0 0, .string ⟨#[]⟩]) := by rw [hW2]; exact ((O1.set 0 _).set 1 _).set 2 _
  have B2 : Hid (Below X w W2) := by rw [hW2]; exact ((B1.setCell (by simp; omega) _).setCell (by simp; omega) _).setCell (by simp; omega) _
  have z2 : Hid (W2.heap.size = X + 3) := by rw [hW2, hW1, hX]; show _ = _; simp only [World.setCell, Array.size_modify, size_al]
  have a0 := A1.cell 0
  have o0 := O1.cell 0
  have f0 := O1.free 0
  obtain ⟨V1, hV1⟩ : ∃ W, W = W1.setCell ⟨X + 1 + 1, 0, none⟩ (.int .i64 kd) := ⟨_, rfl⟩
  have Av1 : RowAt V1 X 86 #[.int .i64 kd, .int .i64 mbr, .int .i64 dt, .slice pa pe.length pc, .string tx] := by rw [hV1]; exact A1.other _ _ (by simp; omega)
  have Ov1 : RowAt V1 (X + 1 + 1) 42 #[.int .i64 kd, .int .i64 0, .int .i64 0, .slice none 0 0, .string ⟨#[]⟩] := by rw [hV1]; exact O1.set 0 _
  have a1 := Av1.cell 1
  have o1 := Ov1.cell 1
  have f1 := Ov1.free 1
  obtain ⟨V2, hV2⟩ : ∃ W, W = V1.setCell ⟨X + 1 + 1, 1, none⟩ (.int .i64 mbr) := ⟨_, rfl⟩
  have Av2 : RowAt V2 X 86 #[.int .i64 kd, .int .i64 mbr, .int .i64 dt, .slice pa pe.length pc, .string tx] := by rw [hV2]; exact Av1.other _ _ (by simp; omega)
  have Ov2 : RowAt V2 (X + 1 + 1) 42 #[.int .i64 kd, .int .i64 mbr, .int .i64 0, .slice none 0 0, .string ⟨#[]⟩] := by rw [hV2]; exact Ov1.set 1 _
  have a2 := Av2.cell 2
  have o2 := Ov2.cell 2
  have f2 := Ov2.free 2
  have HV1 := hid hV1
  have HV2 := hid hV2
  have HW2 : Hid (W2 = V2.setCell ⟨X + 1 + 1, 2, none⟩ (.int .i64 dt)) := hid (by rw [hW2, hV2, hV1])
  have P2 : Hid (Ints .i64 W2 pa pe.length pc pe) := h.below (by rw [← hX]; exact B2.out)
  have KN := hid (to64 pa pe.length pc pe W2 P2.out hp)
  have HX := hid hX
  have HW1 := hid hW1
  clear hX hW1 hW2 hV1 hV2 h P2 A1 R1 O1 B1 Av1 Ov1 Av2 Ov2
  go_enter Try.func37, Try.ntmps37
  go_upto_region 2 with fail
  rw [← HW1.out, ← HX.out]
  clear HW1
  go_upto_region 3 with fail
  rw [← HV1.out]
  clear HV1 a0 o0 f0
  go_upto_region 4 with fail
  rw [← HV2.out]
  clear HV2 a1 o1 f1
  go_upto_region 5 with fail
  rw [← HW2.out]
  clear HW2 a2 o2 f2
  have a3 := A2.out.cell 3
  go_wp2_with fail
  refine KN.out.mono ?_
  rintro e w3 ⟨rfl, hF3, hb3⟩
  obtain ⟨b, hb⟩ : ∃ b, b = W2.heap.size := ⟨_, rfl⟩
  rw [← hb] at hF3 ⊢
  have hbl : X + 2 < b := by have := z2.out; omega
  have F3 := hid hF3
  have A3 := hid (A2.out.below hb3 A2.out.lt)
  have R3 := hid (R2.out.below hb3 R2.out.lt)
  have O3 := hid (O2.out.below hb3 O2.out.lt)
  have B3 := hid (B2.out.trans (hb3.mono (Nat.le_of_lt A2.out.lt)))
  clear hF3 hb3 hb KN a3 A2 R2 O2 B2 z2
  have o3 := O3.out.cell 3
  have f3 := O3.out.free 3
  obtain ⟨W4, hW4⟩ : ∃ W, W = w3.setCell ⟨X + 1 + 1, 3, none⟩ (.slice (some ⟨b, 0, none⟩) pe.length pe.length) := ⟨_, rfl⟩
  have A4 : Hid (RowAt W4 X 86 #[.int .i64 kd, .int .i64 mbr, .int .i64 dt, .slice pa pe.length pc, .string tx]) := by rw [hW4]; exact A3.out.other _ _ (by simp; omega)
  have R4 : Hid (RowAt W4 (X + 1) 42 #[.int .i64 0, .int .i64 0, .int .i64 0, .slice none 0 0, .string ⟨#[]⟩]) := by rw [hW4]; exact R3.out.other _ _ (by simp)
  have O4 : Hid (RowAt W4 (X + 1 + 1) 42 #[.int .i64 kd, .int .i64 mbr, .int .i64 dt, .slice (some ⟨b, 0, none⟩) pe.length pe.length, .string ⟨#[]⟩]) := by rw [hW4]; exact O3.out.set 3 _
  have F4 : Hid (Wr .i64 W4 b 0 pe) := by rw [hW4]; exact F3.out.other _ _ (by simp; omega)
  have B4 : Hid (Below X w W4) := by rw [hW4]; exact B3.out.setCell (by simp; omega) _
  have HW4 := hid hW4
  clear hW4 A3 R3 O3 F3 B3
  go_upto_region 6 with fail
  rw [← HW4.out]
  clear HW4 o3 f3
  have a4 := A4.out.cell 4
  have o4 := O4.out.cell 4
  have f4 := O4.out.free 4
  obtain ⟨W5, hW5⟩ : ∃ W, W = W4.setCell ⟨X + 1 + 1, 4, none⟩ (.string tx) := ⟨_, rfl⟩
  have R5 : Hid (RowAt W5 (X + 1) 42 #[.int .i64 0, .int .i64 0, .int .i64 0, .slice none 0 0, .string ⟨#[]⟩]) := by rw [hW5]; exact R4.out.other _ _ (by simp)
  have O5 : Hid (RowAt W5 (X + 1 + 1) 42 #[.int .i64 kd, .int .i64 mbr, .int .i64 dt, .slice (some ⟨b, 0, none⟩) pe.length pe.length, .string tx]) := by rw [hW5]; exact O4.out.set 4 _
  have F5 : Hid (Wr .i64 W5 b 0 pe) := by rw [hW5]; exact F4.out.other _ _ (by simp; omega)
  have B5 : Hid (Below X w W5) := by rw [hW5]; exact B4.out.setCell (by simp; omega) _
  have HW5 := hid hW5
  clear hW5 A4 R4 O4 F4 B4
  go_upto_region 7 with fail
  rw [← HW5.out]
  clear HW5 a4 o4 f4
  have q0 := O5.out.cell 0
  have q1 := O5.out.cell 1
  have q2 := O5.out.cell 2
  have q3 := O5.out.cell 3
  have q4 := O5.out.cell 4
  go_wp2_with (refine wpList_store_row rfl 42 (.tmp 2) (.tmp 20) rfl (X + 1) #[.int .i64 kd, .int .i64 mbr, .int .i64 dt, .slice (some ⟨b, 0, none⟩) pe.length pe.length, .string tx] rfl rfl _ _ R5.out (by kernel_rfl) rfl (oneGop _ _ _ _ _ _ _) ?_)
  refine bodyPost_ret (v := .agg #[.int .i64 kd, .int .i64 mbr, .int .i64 dt, .slice (some ⟨b, 0, none⟩) pe.length pe.length, .string tx]) ?_ rfl ⟨b, rfl, wr_setRow F5.out _ (by omega), by rw [← HX.out]; omega, by rw [← HX.out]; exact below_setRow B5.out _ _ (by omega)⟩
  exact results_cell_row Try.results37 _ _ (X + 1) _ _ _ _ rfl (R5.out.setRow _) Try.underlying42 rfl (by kernel_rfl)
end Go.Proofs.Ytmfhkhhdcmnpdaa
