import Derived.Test.YtmfhkhhdcmnpdaaLawGop
namespace Go.Proofs.Ytmfhkhhdcmnpdaa
open Go.RowKit
set_option linter.unusedVariables false
/-! The laws' own on a group's operations, rows of them (by genlawgop.py). -/
theorem Try.infoGop : (Try.prog.info? 42).map (fun i => (i.zero, i.size, i.bytes)) = some (some (.agg #[.int .i64 0, .int .i64 0, .int .i64 0, .slice none 0 0, .string ⟨#[]⟩]), 5, 64) := by kernel_rfl
theorem mkGop (w : World) (n : Nat) (hn : n ≤ 1048576) : (Instr.makeSlice 23 (.int .i64 n) (.int .i64 n)).run Try.prog w = .ok (.slice (some ⟨w.heap.size, 0, none⟩) n n) (w.alloc (.cells (madeCells #[.int .i64 0, .int .i64 0, .int .i64 0, .slice none 0 0, .string ⟨#[]⟩] (n * 5)) 42)) := by
  obtain ⟨i0, hi, hz0, hz1, hz2⟩ := info_parts Try.infoGop
  have := run_make (P := Try.prog) w 23 42 i0 _ Try.underlying23 hi hz0 .i64 .i64 n n (by omega) (Int.le_refl _) (by rw [hz2]; omega) (by omega)
  rw [this, hz1]
  simp only [Int.toNat_natCast, Value.cells]
def gqZ (r : Nat) : Value := if r = 3 then .slice none 0 0 else if r = 4 then .string ⟨#[]⟩ else .int .i64 0
def gqI (o : Nat → Gop) (pq : Nat → Nat) (i p : Nat) : Value := if p / 5 < i then gqF o pq p else gqZ (p % 5)
theorem gqI_put (o : Nat → Gop) (pq : Nat → Nat) (i X p : Nat) : putF (putF (putF (putF (putF (gqI o pq i) (i * 5) (.int .i64 (o i).kd)) (i * 5 + 1) (.int .i64 (o i).mb)) (i * 5 + 2) (.int .i64 (o i).dt)) (i * 5 + 3) (.slice (some ⟨X, 0, none⟩) (o i).pe.length (o i).pe.length)) (i * 5 + 4) (.string (o i).tx) p = gqI o (fun j => if j = i then X else pq j) (i + 1) p := by
  unfold putF
  by_cases e : p / 5 = i
  · have q : gqI o (fun j => if j = i then X else pq j) (i + 1) p = gqF o (fun j => if j = i then X else pq j) p := if_pos (by omega)
    rw [q]
    obtain ⟨r, hr, rfl⟩ : ∃ r, r < 5 ∧ p = i * 5 + r := ⟨p % 5, by omega, by omega⟩
    rcases (by omega : r = 0 ∨ r = 1 ∨ r = 2 ∨ r = 3 ∨ r = 4) with rfl | rfl | rfl | rfl | rfl
    · rw [Nat.add_zero, gqF0, if_neg (by omega), if_neg (by omega), if_neg (by omega), if_neg (by omega), if_pos rfl]
    · rw [gqF1, if_neg (by omega), if_neg (by omega), if_neg (by omega), if_pos rfl]
    · rw [gqF2, if_neg (by omega), if_neg (by omega), if_pos rfl]
    · rw [gqF3, if_neg (by omega), if_pos rfl, if_pos rfl]
    · rw [gqF4, if_pos rfl]
  · rw [if_neg (by omega), if_neg (by omega), if_neg (by omega), if_neg (by omega), if_neg (by omega)]
    unfold gqI
    by_cases h : p / 5 < i
    · rw [if_pos h, if_pos (by omega)]
      unfold gqF
      dsimp only
      rw [if_neg e]
    · rw [if_neg h, if_neg (by omega)]
structure MkI (w : World) (b n i : Nat) (o : Nat → Gop) (pq : Nat → Nat) : Prop where
  row : FRow w b 42 (n * 5) (gqI o pq i)
  pee : ∀ k, k < i → Wr .i64 w (pq k) 0 (o k).pe ∧ b < pq k
  ne : ∀ j k, j < i → k < i → j ≠ k → pq j ≠ pq k
def ToG (n : Nat) (o : Nat → Gop) (w : World) (e : Ending) (w' : World) : Prop := ∃ b pq, e = .returned (.slice (some ⟨b, 0, none⟩) n n) ∧ MkG w' b n o pq ∧ w.heap.size ≤ b ∧ Below w.heap.size w w'
set_option maxRecDepth 20000 in
set_option maxHeartbeats 4000000 in
theorem toGops (a : Option Addr) (n cap : Nat) (o : Nat → Gop) (pa : Nat → Option Addr) (pc : Nat → Nat) (hn : n ≤ 1048576) (hs : ∀ k, k < n → (o k).pe.length ≤ 1048576) (w : World) (h : Gops w a n cap o pa pc) :
    Calls Try.prog 15 #[.slice a n cap] w fun e w' => ToG n o w e w' := by
  obtain ⟨X, hX⟩ : ∃ X, X = w.heap.size := ⟨_, rfl⟩
  obtain ⟨W1, hW1⟩ : ∃ W, W = w.alloc (.cells (madeCells #[.int .i64 0, .int .i64 0, .int .i64 0, .slice none 0 0, .string ⟨#[]⟩] (n * 5)) 42) := ⟨_, rfl⟩
  have hmk := mkGop w n hn
  rw [← hX, ← hW1] at hmk
  have I1 : Hid (MkI W1 X n 0 o (fun _ => 0)) := by
    refine ⟨?_, fun k hk => absurd hk (by omega), fun j k hj => absurd hj (by omega)⟩
    rw [hW1, hX]
    refine FRow.of (RowAt.new _ _ _) (by simp [madeCells]) fun p hp => ?_
    have h2 : p % 5 < 5 := Nat.mod_lt _ (by decide)
    have e0 : gqI o (fun _ => 0) 0 p = gqZ (p % 5) := if_neg (by omega)
    rw [e0]
    simp [madeCells, hp]
    rcases (show p % 5 = 0 ∨ p % 5 = 1 ∨ p % 5 = 2 ∨ p % 5 = 3 ∨ p % 5 = 4 by omega) with e | e | e | e | e <;> rw [e] <;> rfl
  have B1 : Hid (Below w.heap.size w W1) := by rw [hW1]; exact (Below.refl _ _).alloc (Nat.le_refl _) _
  have HX := hid hX
  have HH := hid h
  have HS := hid hs
  clear hW1 hX h hs
  go_enter Try.func15, Try.ntmps15
  go_wp2_with fail
  clear hmk
  go_loopw [4] (fun y wr => ∃ (i : Nat) (pq : Nat → Nat), i ≤ n ∧ y = .int .i64 (i : Int) ∧ MkI wr X n i o pq ∧ Below w.heap.size w wr) (fun y _ => n - (intOf y).toNat)
  case atStart => exact ⟨0, _, Nat.zero_le _, rfl, I1.out, B1.out⟩
  case round =>
    obtain ⟨i, pq, hi, rfl, hI, hB⟩ := hrel
    have II := hid hI
    have BB := hid hB
    clear hI hB I1 B1
    by_cases hlt : i < n
    · have hlt' : (i : Int) < (n : Int) := by omega
      have i0 : (0 : Int) ≤ (i : Int) := by omega
      rcases HH.out.2 with h00 | ⟨b, off, hA, hbl, hc⟩
      · omega
      subst hA
      obtain ⟨x0, x1, x2, x3, x4, x5⟩ := hc i hlt
      have c0 := (BB.out.cell (p := ⟨b, off + i * 5, none⟩) hbl).trans x0
      have c1 := (BB.out.cell (p := ⟨b, off + i * 5 + 1, none⟩) hbl).trans x1
      have c2 := (BB.out.cell (p := ⟨b, off + i * 5 + 2, none⟩) hbl).trans x2
      have c3 := (BB.out.cell (p := ⟨b, off + i * 5 + 3, none⟩) hbl).trans x3
      have c4 := (BB.out.cell (p := ⟨b, off + i * 5 + 4, none⟩) hbl).trans x4
      have hp1 := HS.out i hlt
      have HP := hid (x5.below BB.out)
      obtain ⟨OI, hOI⟩ : ∃ x, x = o i := ⟨_, rfl⟩
      have HOI := hid hOI
      rw [← hOI] at c0 c1 c2 c3 c4 hp1 HP
      obtain ⟨kd, mbr, dt, pe, tx⟩ := OI
      dsimp only at c0 c1 c2 c3 c4 hp1 HP
      obtain ⟨PA, hPA⟩ : ∃ x, x = pa i := ⟨_, rfl⟩
      obtain ⟨PC, hPC⟩ : ∃ x, x = pc i := ⟨_, rfl⟩
      rw [← hPA, ← hPC] at c3 HP
      clear x0 x1 x2 x3 x4 x5 hc hOI hPA hPC
      have K := hid (toGop1 kd mbr dt PA PC pe tx hp1 wr HP.out)
      go_wp2_with fail
      refine K.out.mono ?_
      rintro e w2 ⟨Y, rfl, hF2, hY, hb2⟩
      have hlX := II.out.row.lt
      have R2 := hid (II.out.row.below hb2 II.out.row.lt)
      have P2 : Hid (∀ k, k < i → Wr .i64 w2 (pq k) 0 (o k).pe ∧ X < pq k ∧ pq k < wr.heap.size) := fun k hk => ⟨(II.out.pee k hk).1.below hb2 (II.out.pee k hk).1.lt, (II.out.pee k hk).2, (II.out.pee k hk).1.lt⟩
      have N2 := hid II.out.ne
      have F2 := hid hF2
      have B2 := hid (BB.out.trans (hb2.mono BB.out.size))
      have XY : X < Y := by omega
      have HY := hid hY
      clear hb2 hF2 K c0 c1 c2 c3 c4 II BB HP hY hlX
      have gz : ∀ r, r < 5 → gqI o pq i (i * 5 + r) = gqZ r := fun r hr => by unfold gqI; rw [if_neg (by omega), show (i * 5 + r) % 5 = r by omega]
      have g0 : w2.cell? ⟨X, i * 5, none⟩ = some (.int .i64 0) := (R2.out.cell (by omega)).trans (by rw [show i * 5 = i * 5 + 0 from rfl, gz 0 (by omega)]; rfl)
      have g1 : w2.cell? ⟨X, i * 5 + 1, none⟩ = some (.int .i64 0) := (R2.out.cell (by omega)).trans (by rw [gz 1 (by omega)]; rfl)
      have g2 : w2.cell? ⟨X, i * 5 + 2, none⟩ = some (.int .i64 0) := (R2.out.cell (by omega)).trans (by rw [gz 2 (by omega)]; rfl)
      have g3 : w2.cell? ⟨X, i * 5 + 3, none⟩ = some (.slice none 0 0) := (R2.out.cell (by omega)).trans (by rw [gz 3 (by omega)]; rfl)
      have g4 : w2.cell? ⟨X, i * 5 + 4, none⟩ = some (.string ⟨#[]⟩) := (R2.out.cell (by omega)).trans (by rw [gz 4 (by omega)]; rfl)
      have f0 := R2.out.free (i * 5)
      have f1 := R2.out.free (i * 5 + 1)
      have f2 := R2.out.free (i * 5 + 2)
      have f3 := R2.out.free (i * 5 + 3)
      have f4 := R2.out.free (i * 5 + 4)
      have hxw : Hid (w.heap.size ≤ X) := by rw [HX.out]; exact Nat.le_refl _
      have RR : Hid (FRow (((((w2.setCell ⟨X, i * 5, none⟩ (.int .i64 kd)).setCell ⟨X, i * 5 + 1, none⟩ (.int .i64 mbr)).setCell ⟨X, i * 5 + 2, none⟩ (.int .i64 dt)).setCell ⟨X, i * 5 + 3, none⟩ (.slice (some ⟨Y, 0, none⟩) pe.length pe.length)).setCell ⟨X, i * 5 + 4, none⟩ (.string tx)) X 42 (n * 5) (gqI o (fun j => if j = i then Y else pq j) (i + 1))) := by
        refine (((((R2.out.set _ _).set _ _).set _ _).set _ _).set _ _).congr fun p _ => ?_
        have q := gqI_put o pq i Y p
        rw [← HOI.out] at q
        exact q
      have PP : Hid (∀ k, k < i + 1 → Wr .i64 (((((w2.setCell ⟨X, i * 5, none⟩ (.int .i64 kd)).setCell ⟨X, i * 5 + 1, none⟩ (.int .i64 mbr)).setCell ⟨X, i * 5 + 2, none⟩ (.int .i64 dt)).setCell ⟨X, i * 5 + 3, none⟩ (.slice (some ⟨Y, 0, none⟩) pe.length pe.length)).setCell ⟨X, i * 5 + 4, none⟩ (.string tx)) (if k = i then Y else pq k) 0 (o k).pe ∧ X < (if k = i then Y else pq k)) := fun k hk => by
        have far : ∀ (g : Nat) (xs : List Int), Wr .i64 w2 g 0 xs → X < g → Wr .i64 (((((w2.setCell ⟨X, i * 5, none⟩ (.int .i64 kd)).setCell ⟨X, i * 5 + 1, none⟩ (.int .i64 mbr)).setCell ⟨X, i * 5 + 2, none⟩ (.int .i64 dt)).setCell ⟨X, i * 5 + 3, none⟩ (.slice (some ⟨Y, 0, none⟩) pe.length pe.length)).setCell ⟨X, i * 5 + 4, none⟩ (.string tx)) g 0 xs := fun g xs hw hg => ((((hw.other _ _ (by simp; omega)).other _ _ (by simp; omega)).other _ _ (by simp; omega)).other _ _ (by simp; omega)).other _ _ (by simp; omega)
        by_cases e : k = i
        · rw [if_pos e, e]
          refine ⟨far _ _ ?_ XY, XY⟩
          have q := F2.out
          rw [show pe = (o i).pe by rw [← HOI.out]] at q
          exact q
        · rw [if_neg e]
          have q := P2.out k (by omega)
          exact ⟨far _ _ q.1 q.2.1, q.2.1⟩
      have NN : Hid (∀ j k, j < i + 1 → k < i + 1 → j ≠ k → (if j = i then Y else pq j) ≠ (if k = i then Y else pq k)) := fun j k hj hk hjk => by
        have hy := HY.out
        by_cases e : j = i
        · rw [if_pos e, if_neg (by omega)]
          have := (P2.out k (by omega)).2.2
          omega
        · rw [if_neg e]
          by_cases e2 : k = i
          · rw [if_pos e2]
            have := (P2.out j (by omega)).2.2
            omega
          · rw [if_neg e2]
            exact N2.out j k (by omega) (by omega) hjk
      have BN : Hid (Below w.heap.size w (((((w2.setCell ⟨X, i * 5, none⟩ (.int .i64 kd)).setCell ⟨X, i * 5 + 1, none⟩ (.int .i64 mbr)).setCell ⟨X, i * 5 + 2, none⟩ (.int .i64 dt)).setCell ⟨X, i * 5 + 3, none⟩ (.slice (some ⟨Y, 0, none⟩) pe.length pe.length)).setCell ⟨X, i * 5 + 4, none⟩ (.string tx))) := ((((B2.out.setCell hxw.out _).setCell hxw.out _).setCell hxw.out _).setCell hxw.out _).setCell hxw.out _
      clear R2 P2 N2 F2 B2 gz XY
      go_wp2
      go_roundw
      case rel => exact ⟨i + 1, fun j => if j = i then Y else pq j, by omega, by go_num, ⟨RR.out, PP.out, NN.out⟩, BN.out⟩
      case measure => simp [intOf]; omega
    · have hlt' : ¬ (i : Int) < (n : Int) := by omega
      have ei : i = n := by omega
      have HE := hid ei
      clear ei
      go_wp2
      go_ret
      refine ⟨X, pq, rfl, ⟨?_, fun k hk => II.out.pee k (by rw [HE.out]; exact hk), fun j k hj hk => II.out.ne j k (by rw [HE.out]; exact hj) (by rw [HE.out]; exact hk)⟩, by rw [HX.out]; exact Nat.le_refl _, BB.out⟩
      refine II.out.row.congr fun p hp => ?_
      unfold gqI
      rw [if_pos (by have := HE.out; omega)]
set_option maxRecDepth 20000 in
set_option maxHeartbeats 2000000 in
theorem eqGop1 (kd mbr dt : Int) (pa pa' : Option Addr) (pc pc' : Nat) (pe : List Int) (tx : ByteArray) (hp : pe.length ≤ 1048576) (w : World) (h : Ints .i64 w pa pe.length pc pe) (h' : Ints .i64 w pa' pe.length pc' pe) :
    Calls Try.prog 40 #[.agg #[.int .i64 kd, .int .i64 mbr, .int .i64 dt, .slice pa pe.length pc, .string tx], .agg #[.int .i64 kd, .int .i64 mbr, .int .i64 dt, .slice pa' pe.length pc', .string tx]] w fun e w' => e = .returned (.bool true) ∧ Below w.heap.size w w' := by
  obtain ⟨X, hX⟩ : ∃ X, X = w.heap.size := ⟨_, rfl⟩
  obtain ⟨W1, hW1⟩ : ∃ W, W = (w.alloc (.cells #[.int .i64 kd, .int .i64 mbr, .int .i64 dt, .slice pa pe.length pc, .string tx] 42)).alloc (.cells #[.int .i64 kd, .int .i64 mbr, .int .i64 dt, .slice pa' pe.length pc', .string tx] 42) := ⟨_, rfl⟩
  have A1 : Hid (RowAt W1 X 42 #[.int .i64 kd, .int .i64 mbr, .int .i64 dt, .slice pa pe.length pc, .string tx]) := by rw [hW1, hX]; exact (RowAt.new _ _ _).alloc _
  have R1 : Hid (RowAt W1 (X + 1) 42 #[.int .i64 kd, .int .i64 mbr, .int .i64 dt, .slice pa' pe.length pc', .string tx]) := by rw [hW1, hX]; exact RowAt.next _ _ _ (by simp only [size_al])
  have B1 : Hid (Below w.heap.size w W1) := by rw [hW1]; exact balGe (balGe (Below.refl _ _) _) _
  have K := hid (eq64 pa pe.length pc pe pa' pe.length pc' pe W1 (h.below B1.out) (h'.below B1.out) hp hp rfl)
  have d0 : (kd != kd) = false := by simp
  have d1 : (mbr != mbr) = false := by simp
  have d2 : (dt != dt) = false := by simp
  have a0 := A1.out.cell 0
  have a1 := A1.out.cell 1
  have a2 := A1.out.cell 2
  have a3 := A1.out.cell 3
  have r0 := R1.out.cell 0
  have r1 := R1.out.cell 1
  have r2 := R1.out.cell 2
  have r3 := R1.out.cell 3
  have HX := hid hX
  have HW1 := hid hW1
  clear hX hW1 h h'
  go_enter Try.func40, Try.ntmps40
  go_upto_region 1 with fail
  rw [← HW1.out, ← HX.out]
  clear HW1
  go_wp2_with fail
  refine K.out.mono ?_
  rintro e w2 ⟨rfl, hb2⟩
  have a4 := (A1.out.below hb2 A1.out.lt).cell 4
  have r4 := (R1.out.below hb2 R1.out.lt).cell 4
  have B2 := hid (B1.out.trans (hb2.mono B1.out.size))
  clear hb2 K a0 a1 a2 a3 r0 r1 r2 r3
  go_wp2
  go_ret
  exact ⟨rfl, B2.out⟩
set_option maxRecDepth 20000 in
set_option maxHeartbeats 4000000 in
theorem eqGops (a : Option Addr) (n cap : Nat) (o : Nat → Gop) (pa : Nat → Option Addr) (pc : Nat → Nat) (a' : Option Addr) (cap' : Nat) (pa' : Nat → Option Addr) (pc' : Nat → Nat) (hn : n ≤ 1048576) (hs : ∀ k, k < n → (o k).pe.length ≤ 1048576) (w : World) (h : Gops w a n cap o pa pc) (h' : Gops w a' n cap' o pa' pc') :
    Calls Try.prog 17 #[.slice a n cap, .slice a' n cap'] w fun e w' => e = .returned (.bool true) ∧ Below w.heap.size w w' := by
  have HH := hid h
  have HH' := hid h'
  have HS := hid hs
  have dn : ((n : Int) != (n : Int)) = false := by simp
  clear h h' hs
  go_enter Try.func17, Try.ntmps17
  go_wp2_with fail
  go_loopw [5] (fun y wr => ∃ (i : Nat), i ≤ n ∧ y = .int .i64 (i : Int) ∧ Below w.heap.size w wr) (fun y _ => n - (intOf y).toNat)
  case atStart => exact ⟨0, Nat.zero_le _, rfl, Below.refl _ _⟩
  case round =>
    obtain ⟨i, hi, rfl, hB⟩ := hrel
    have BB := hid hB
    clear hB
    by_cases hlt : i < n
    · have hlt' : (i : Int) < (n : Int) := by omega
      have i0 : (0 : Int) ≤ (i : Int) := by omega
      rcases HH.out.2 with h00 | ⟨b, off, hA, hbl, hc⟩
      · omega
      subst hA
      rcases HH'.out.2 with h00 | ⟨b', off', hA', hbl', hc'⟩
      · omega
      subst hA'
      obtain ⟨x0, x1, x2, x3, x4, x5⟩ := hc i hlt
      obtain ⟨z0, z1, z2, z3, z4, z5⟩ := hc' i hlt
      have c0 := (BB.out.cell (p := ⟨b, off + i * 5, none⟩) hbl).trans x0
      have c1 := (BB.out.cell (p := ⟨b, off + i * 5 + 1, none⟩) hbl).trans x1
      have c2 := (BB.out.cell (p := ⟨b, off + i * 5 + 2, none⟩) hbl).trans x2
      have c3 := (BB.out.cell (p := ⟨b, off + i * 5 + 3, none⟩) hbl).trans x3
      have c4 := (BB.out.cell (p := ⟨b, off + i * 5 + 4, none⟩) hbl).trans x4
      have e0 := (BB.out.cell (p := ⟨b', off' + i * 5, none⟩) hbl').trans z0
      have e1 := (BB.out.cell (p := ⟨b', off' + i * 5 + 1, none⟩) hbl').trans z1
      have e2 := (BB.out.cell (p := ⟨b', off' + i * 5 + 2, none⟩) hbl').trans z2
      have e3 := (BB.out.cell (p := ⟨b', off' + i * 5 + 3, none⟩) hbl').trans z3
      have e4 := (BB.out.cell (p := ⟨b', off' + i * 5 + 4, none⟩) hbl').trans z4
      have hp1 := HS.out i hlt
      have HP := hid (x5.below BB.out)
      have HP' := hid (z5.below BB.out)
      obtain ⟨OI, hOI⟩ : ∃ x, x = o i := ⟨_, rfl⟩
      rw [← hOI] at c0 c1 c2 c3 c4 e0 e1 e2 e3 e4 hp1 HP HP'
      obtain ⟨kd, mbr, dt, pe, tx⟩ := OI
      dsimp only at c0 c1 c2 c3 c4 e0 e1 e2 e3 e4 hp1 HP HP'
      obtain ⟨PA, hPA⟩ : ∃ x, x = pa i := ⟨_, rfl⟩
      obtain ⟨PC, hPC⟩ : ∃ x, x = pc i := ⟨_, rfl⟩
      obtain ⟨PA', hPA'⟩ : ∃ x, x = pa' i := ⟨_, rfl⟩
      obtain ⟨PC', hPC'⟩ : ∃ x, x = pc' i := ⟨_, rfl⟩
      rw [← hPA, ← hPC] at c3 HP
      rw [← hPA', ← hPC'] at e3 HP'
      clear x0 x1 x2 x3 x4 x5 z0 z1 z2 z3 z4 z5 hc hc' hOI hPA hPC hPA' hPC'
      have K : Hid (∀ wx, Below wr.heap.size wr wx → Calls Try.prog 40 #[.agg #[.int .i64 kd, .int .i64 mbr, .int .i64 dt, .slice PA pe.length PC, .string tx], .agg #[.int .i64 kd, .int .i64 mbr, .int .i64 dt, .slice PA' pe.length PC', .string tx]] wx fun e w' => e = .returned (.bool true) ∧ Below wx.heap.size wx w') := fun wx hx => eqGop1 kd mbr dt PA PA' PC PC' pe tx hp1 wx (HP.out.below hx) (HP'.out.below hx)
      go_wp2_with fail
      go_region_law (go_simp; go_at_call 40; refine (K.out _ (by first | exact (Below.refl _ _).drew | exact Below.refl _ _)).mono ?_; rintro e w2 ⟨rfl, hb2⟩; have N2 : Hid (Below w.heap.size w w2) := (by first | exact BB.out.drew.trans (hb2.mono BB.out.size) | exact BB.out.trans (hb2.mono BB.out.size)); clear hb2; dsimp only)
      all_goals go_wp2
      all_goals go_roundw
      all_goals first | exact ⟨i + 1, by omega, by go_num, N2.out⟩ | (simp [intOf]; omega)
    · have hlt' : ¬ (i : Int) < (n : Int) := by omega
      go_wp2
      go_ret
      exact ⟨rfl, BB.out⟩
end Go.Proofs.Ytmfhkhhdcmnpdaa
