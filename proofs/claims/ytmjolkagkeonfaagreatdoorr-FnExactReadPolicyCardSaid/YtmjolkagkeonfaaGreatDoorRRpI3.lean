import Derived.Test.YtmjolkagkeonfaaGreatDoorRRpI2
namespace Go.Proofs.YtmjolkagkeonfaaGreatDoorR
open Go.RowKit
set_option linter.unusedVariables false
/-! The program's line reader: a condition, a statement. -/
set_option maxRecDepth 20000 in
set_option maxHeartbeats 4000000 in
theorem iTakeC_no (W0 : World) (hv : RdV W0) (b g : Nat) (l : Int) (ws : List ByteArray) (k : Nat) (w : World) (h : Rdr W0 w b g l ws k) (hn : ¬ (k + 1 < ws.length ∧ nmP (atB ws k))) :
    Calls Tryz.prog 73 #[.pointer (some ⟨b, 0, none⟩)] w fun e w' => ThrownAt e 3 l ∧ Below W0.heap.size W0 w' := by
  obtain ⟨W1, hW1⟩ : ∃ W, W = w.alloc (.cells #[.int .i64 0, .string ⟨#[]⟩, .int .i64 0] 55) := ⟨_, rfl⟩
  have h1 : Rdr W0 W1 b g l ws k := by rw [hW1]; exact h.below ((Below.refl _ _).alloc (Nat.le_refl _) _)
  clear h
  by_cases h0 : k = ws.length
  · subst h0
    have K := hid (iTakeW_no W0 b g l ws W1 h1)
    have B := hid h1.bw
    clear h1 hn
    go_enter Tryz.func73, Tryz.ntmps73
    go_wp2_with fail
    rw [← hW1]
    clear hW1
    refine K.out.mono ?_
    rintro e w2 ⟨hT, rfl⟩
    unfold ThrownAt at hT
    subst hT
    go_wp2
    exact ⟨rfl, rfl, B.out⟩
  have hk : k < ws.length := by have := h1.kn; omega
  have K := hid (iTakeW W0 b g l ws k hk W1 h1)
  obtain ⟨t, ht⟩ : ∃ t, t = atB ws k := ⟨_, rfl⟩
  rw [← ht] at K hn
  clear ht h1
  by_cases h2 : k + 1 = ws.length
  · clear hn
    go_enter Tryz.func73, Tryz.ntmps73
    go_wp2_with fail
    rw [← hW1]
    clear hW1
    refine K.out.mono ?_
    rintro e w2 ⟨rfl, hL, hg⟩
    rw [h2] at hL
    have K2 := hid (iTakeW_no W0 b g l ws w2 hL)
    have B := hid hL.bw
    clear hL hg h2 K
    go_wp2_with fail
    refine K2.out.mono ?_
    rintro e w3 ⟨hT, rfl⟩
    unfold ThrownAt at hT
    subst hT
    go_wp2
    exact ⟨rfl, rfl, B.out⟩
  have hk2 : k + 1 < ws.length := by omega
  have NM : Hid (¬ nmP t) := fun q => hn ⟨hk2, q⟩
  have HV := hid hv
  clear hn h2 hv
  go_enter Tryz.func73, Tryz.ntmps73
  go_wp2_with fail
  rw [← hW1]
  clear hW1
  refine K.out.mono ?_
  rintro e w2 ⟨rfl, hL, hg⟩
  have K2 := hid (iTakeW W0 b g l ws (k + 1) hk2 w2 hL)
  have TS : Hid ((atB ws (k + 1)).size ≤ 1048576) := hL.at (k + 1) hk2
  clear hL hg K
  obtain ⟨t2, ht2⟩ : ∃ t, t = atB ws (k + 1) := ⟨_, rfl⟩
  rw [← ht2] at K2 TS
  clear ht2
  go_wp2_with fail
  refine K2.out.mono ?_
  rintro e w3 ⟨rfl, hL, hg⟩
  have L3 := hid hL
  have K3 := hid (iRdC t t2 TS.out w3 (hL.rdv HV.out))
  clear hL hg K2
  go_wp2_with fail
  refine K3.out.mono ?_
  rintro e w4 ⟨h4 | ⟨c, hc, _⟩, hb4⟩
  · obtain ⟨_, rfl⟩ := h4
    have L4 := hid (L3.out.below hb4)
    have K4 := hid (iFail W0 b g l ws (k + 1 + 1) w4 L4.out)
    have B := hid L4.out.bw
    clear hb4 K3
    go_wp2_with fail
    refine K4.out.mono ?_
    rintro e w5 ⟨hT, rfl⟩
    unfold ThrownAt at hT
    subst hT
    go_wp2
    exact ⟨rfl, rfl, B.out⟩
  · exfalso
    refine NM.out ?_
    rcases hc with ⟨q, _⟩ | ⟨q, _⟩ | ⟨q, _⟩ | ⟨q, _⟩
    · exact .inl q
    · exact .inr (.inl q)
    · exact .inr (.inr (.inl q))
    · exact .inr (.inr (.inr q))
set_option maxRecDepth 20000 in
set_option maxHeartbeats 4000000 in
theorem iTakeC (W0 : World) (hv : RdV W0) (b g : Nat) (l : Int) (ws : List ByteArray) (k : Nat) (w : World) (h : Rdr W0 w b g l ws k) (hk : k + 1 < ws.length) (hn : nmP (atB ws k)) :
    Calls Tryz.prog 73 #[.pointer (some ⟨b, 0, none⟩)] w fun e w' => ∃ c, e = .returned (.agg #[.int .i64 c.kd, .string c.tx, .int .i64 c.tm]) ∧ CdO (atB ws k) (atB ws (k + 1)) c ∧ Rdr W0 w' b g l ws (k + 2) ∧ w.grownBy w' (some b) := by
  obtain ⟨W1, hW1⟩ : ∃ W, W = w.alloc (.cells #[.int .i64 0, .string ⟨#[]⟩, .int .i64 0] 55) := ⟨_, rfl⟩
  have h1 : Rdr W0 W1 b g l ws k := by rw [hW1]; exact h.below ((Below.refl _ _).alloc (Nat.le_refl _) _)
  have G1 : Hid (w.grownBy W1 (some b)) := by rw [hW1]; exact World.grownBy_alloc _ _ _
  have R1 : Hid (RowAt W1 w.heap.size 55 #[.int .i64 0, .string ⟨#[]⟩, .int .i64 0]) := by rw [hW1]; exact RowAt.new _ _ _
  have hbw : Hid (b < w.heap.size) := by obtain ⟨A, r1, _⟩ := h.row; exact r1.lt
  have hB0 : Hid (W0.heap.size ≤ w.heap.size) := h.bw.size
  clear h
  have K := hid (iTakeW W0 b g l ws k (by omega) W1 h1)
  obtain ⟨t, ht⟩ : ∃ t, t = atB ws k := ⟨_, rfl⟩
  rw [← ht] at K hn ⊢
  clear ht h1
  have NM := hid hn
  have HV := hid hv
  clear hn hv
  obtain ⟨t2, ht2⟩ : ∃ t, t = atB ws (k + 1) := ⟨_, rfl⟩
  rw [← ht2]
  have HT2 := hid ht2
  clear ht2
  go_enter Tryz.func73, Tryz.ntmps73
  go_wp2_with fail
  rw [← hW1]
  clear hW1
  refine K.out.mono ?_
  rintro e w2 ⟨rfl, hL, hg⟩
  have G2 := hid (grown_trans G1.out hg)
  have R2 : Hid (RowAt w2 w.heap.size 55 #[.int .i64 0, .string ⟨#[]⟩, .int .i64 0]) := (hg.block _ R1.out.lt (fun e => by have := hbw.out; have := Option.some.inj e; omega)).trans R1.out
  have K2 := hid (iTakeW W0 b g l ws (k + 1) hk w2 hL)
  have TS : Hid ((atB ws (k + 1)).size ≤ 1048576) := hL.at (k + 1) hk
  clear hL hg K G1 R1
  rw [← HT2.out] at K2 TS
  go_wp2_with fail
  refine K2.out.mono ?_
  rintro e w3 ⟨rfl, hL, hg⟩
  have L3 := hid hL
  have G3 := hid (grown_trans G2.out hg)
  have R3 : Hid (RowAt w3 w.heap.size 55 #[.int .i64 0, .string ⟨#[]⟩, .int .i64 0]) := (hg.block _ R2.out.lt (fun e => by have := hbw.out; have := Option.some.inj e; omega)).trans R2.out
  have K3 := hid (iRdC t t2 TS.out w3 (hL.rdv HV.out))
  clear hL hg K2 G2 R2
  go_wp2_with fail
  refine K3.out.mono ?_
  rintro e w4 ⟨h4 | ⟨c, hc, hi⟩, hb4⟩
  · exact absurd NM.out h4.1
  · have L4 := hid (L3.out.below hb4)
    have G4 := hid (grown_trans G3.out (below_grown hb4 _))
    have R4 := hid (R3.out.below hb4 R3.out.lt)
    have HC := hid hc
    clear hb4 hc K3 L3 G3 R3
    have STEP : ∀ w5, Below w4.heap.size w4 w5 → Hid (Rdr W0 (w5.setRow w.heap.size #[.int .i64 c.kd, .string c.tx, .int .i64 c.tm]) b g l ws (k + 1 + 1) ∧ w.grownBy (w5.setRow w.heap.size #[.int .i64 c.kd, .string c.tx, .int .i64 c.tm]) (some b) ∧ RowAt w5 w.heap.size 55 #[.int .i64 0, .string ⟨#[]⟩, .int .i64 0] ∧ RowAt (w5.setRow w.heap.size #[.int .i64 c.kd, .string c.tx, .int .i64 c.tm]) w.heap.size 55 #[.int .i64 c.kd, .string c.tx, .int .i64 c.tm]) := fun w5 hb5 => by
      have L5 := L4.out.below hb5
      have G5 := grown_trans G4.out (below_grown hb5 (some b))
      have R5 := R4.out.below hb5 R4.out.lt
      have hbw' := hbw.out
      have hB0' := hB0.out
      obtain ⟨A, r1, r2⟩ := L5.row
      have hgw : w.heap.size ≠ g := rowApart R5 L5.wd (by decide)
      refine ⟨⟨below_setRow L5.bw _ _ hB0', L5.hb, L5.bg, L5.kn, L5.sz, ⟨A, r1.otherRow _ _ (by omega), r2⟩, L5.wd.otherRow _ _ (fun e => hgw e.symm)⟩, ?_, R5, R5.setRow _⟩
      refine ⟨G5.os, G5.tape, G5.output, by rw [setRow_size]; exact G5.size, fun x hx hne => ?_⟩
      rw [setRow_other w5 w.heap.size x _ (by omega)]
      exact G5.block x hx hne
    have K5 := hid (iPlainC hi)
    clear hi
    obtain ⟨T, x, rfl, K6⟩ := K5.out
    have K7 := hid (K6 w4)
    clear K5 K6
    go_wp2_with fail
    refine K7.out.mono ?_
    rintro e w5 ⟨rfl, hb5⟩
    have S5 := STEP w5 hb5
    clear hb5 K7 STEP
    obtain ⟨s1, s2, s3, s4⟩ := S5.out
    have S1 := hid s1
    have S2 := hid s2
    have S3 := hid s3
    have S4 := hid s4
    clear s1 s2 s3 s4 S5
    go_wp2_with (refine wpList_store_row rfl 55 (.tmp 2) (.tmp 16) rfl w.heap.size #[.int .i64 c.kd, .string c.tx, .int .i64 c.tm] rfl rfl _ _ S3.out (by kernel_rfl) rfl (by simp [Value.oneCell']) ?_)
    refine bodyPost_ret (v := .agg #[.int .i64 c.kd, .string c.tx, .int .i64 c.tm]) ?_ rfl ⟨c, rfl, HC.out, S1.out, S2.out⟩
    exact results_cell_row Tryz.results73 _ _ w.heap.size _ _ _ _ rfl S4.out Tryz.underlying55 rfl (by kernel_rfl)
end Go.Proofs.YtmjolkagkeonfaaGreatDoorR
