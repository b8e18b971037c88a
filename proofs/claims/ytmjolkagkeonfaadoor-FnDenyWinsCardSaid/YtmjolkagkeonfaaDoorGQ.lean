import Derived.Test.YtmjolkagkeonfaaDoorJdI
import Derived.Test.YtmjolkagkeonfaaDoorGJ
namespace Go.Proofs.YtmjolkagkeonfaaDoor
open Go.RowKit
set_option linter.unusedVariables false
/-! The program's Judge: a statement that fits, the whole. -/
theorem run_max4 {P : Program} (w : World) (ts : Array TypeId) (t : TypeId) (x y z u : Int) :
    (Builtin.max_ ts t #[.int .i64 x, .int .i64 y, .int .i64 z, .int .i64 u]).run P w = .ok (.int .i64 (max (max (max x y) z) u)) w := by
  have e : ∀ a b : Int, (if b > a then b else a) = max a b := fun a b => by
    rw [Int.max_def]
    split <;> split <;> omega
  simp [Builtin.max_, Builtin.max2, e]
set_option maxRecDepth 20000 in
set_option maxHeartbeats 2000000 in
theorem iAskF (q : Aq) (hq : AqB q) (w : World) :
    Calls Tryd.prog 14 #[.agg #[.string q.wo, .string q.wa, .string q.wi, .string q.fr, .int .i64 q.tm]] w fun e w' => e = .returned (.bool true) ∧ Below w.heap.size w w' := by
  have hmx := fun wx => run_max4 (P := Tryd.prog) wx #[3, 3, 3, 3] 3 (q.wo.size : Int) (q.wa.size : Int) (q.wi.size : Int) (q.fr.size : Int)
  obtain ⟨M, hM⟩ : ∃ M, M = max (max (max (q.wo.size : Int) (q.wa.size : Int)) (q.wi.size : Int)) (q.fr.size : Int) := ⟨_, rfl⟩
  rw [← hM] at hmx
  have d0 : M ≤ 100000 := by
    have h1 := hq.wo; have h2 := hq.wa; have h3 := hq.wi; have h4 := hq.fr
    rw [hM]; omega
  have d1 : decide (M ≤ 100000) = true := decide_eq_true d0
  have z1 := hq.wo
  have z2 := hq.wa
  have z3 := hq.wi
  have z4 := hq.fr
  clear hM hq
  obtain ⟨qwo, qwa, qwi, qfr, qtm⟩ := q
  dsimp only at hmx z1 z2 z3 z4 ⊢
  go_enter Tryd.func14, Tryd.ntmps14
  go_wp2
  go_ret
  exact ⟨rfl, (Below.refl _ _).alloc (Nat.le_refl _) _⟩
theorem cnH_1 {tx : ByteArray} {tm : Int} {q : Aq} : cnH ⟨1, tx, tm⟩ q ↔ bgP q.wi tx := by
  unfold cnH; dsimp only
  exact ⟨fun h => by rcases h with ⟨_, z⟩ | ⟨z, _⟩ | ⟨z, _⟩ | ⟨z, _⟩ <;> first | exact z | omega, fun h => .inl ⟨rfl, h⟩⟩
theorem cnH_2 {tx : ByteArray} {tm : Int} {q : Aq} : cnH ⟨2, tx, tm⟩ q ↔ q.tm < tm := by
  unfold cnH; dsimp only
  exact ⟨fun h => by rcases h with ⟨z, _⟩ | ⟨_, z⟩ | ⟨z, _⟩ | ⟨z, _⟩ <;> omega, fun h => .inr (.inl ⟨rfl, h⟩)⟩
theorem cnH_3 {tx : ByteArray} {tm : Int} {q : Aq} : cnH ⟨3, tx, tm⟩ q ↔ tm < q.tm := by
  unfold cnH; dsimp only
  exact ⟨fun h => by rcases h with ⟨z, _⟩ | ⟨z, _⟩ | ⟨_, z⟩ | ⟨z, _⟩ <;> omega, fun h => .inr (.inr (.inl ⟨rfl, h⟩))⟩
theorem cnH_4 {tx : ByteArray} {tm : Int} {q : Aq} : cnH ⟨4, tx, tm⟩ q ↔ globV tx q.fr = true := by
  unfold cnH; dsimp only
  exact ⟨fun h => by rcases h with ⟨z, _⟩ | ⟨z, _⟩ | ⟨z, _⟩ | ⟨_, z⟩ <;> first | exact z | omega, fun h => .inr (.inr (.inr ⟨rfl, h⟩))⟩
set_option maxRecDepth 20000 in
set_option maxHeartbeats 16000000 in
theorem iHits (s : St) (hs : StB s 1048576) (hp : isP s.cs.n s.cs.o) (q : Aq) (hq : AqB q) (w : World) (h : StIn w s) :
    Calls Tryd.prog 15 #[.agg #[.int .i64 s.ef, .slice s.wo.ad s.wo.n s.wo.cap, .slice s.wa.ad s.wa.n s.wa.cap, .slice s.wi.ad s.wi.n s.wi.cap, .slice s.cs.ad s.cs.n s.cs.cap], .agg #[.string q.wo, .string q.wa, .string q.wi, .string q.fr, .int .i64 q.tm]] w fun e w' => e = .returned (.bool (pb (hitP s q))) ∧ Below w.heap.size w w' := by
  obtain ⟨W1, hW1⟩ : ∃ W, W = (w.alloc (.cells #[.int .i64 s.ef, .slice s.wo.ad s.wo.n s.wo.cap, .slice s.wa.ad s.wa.n s.wa.cap, .slice s.wi.ad s.wi.n s.wi.cap, .slice s.cs.ad s.cs.n s.cs.cap] 33)).alloc (.cells #[.string q.wo, .string q.wa, .string q.wi, .string q.fr, .int .i64 q.tm] 25) := ⟨_, rfl⟩
  have B1 : Hid (Below w.heap.size w W1) := by rw [hW1]; exact ((Below.refl _ _).alloc (Nat.le_refl _) _).alloc (by rw [size_al]; omega) _
  have R1 : Hid (RowAt W1 w.heap.size 33 #[.int .i64 s.ef, .slice s.wo.ad s.wo.n s.wo.cap, .slice s.wa.ad s.wa.n s.wa.cap, .slice s.wi.ad s.wi.n s.wi.cap, .slice s.cs.ad s.cs.n s.cs.cap]) := by rw [hW1]; exact (RowAt.new _ _ _).alloc _
  have Q1 : Hid (RowAt W1 (w.heap.size + 1) 25 #[.string q.wo, .string q.wa, .string q.wi, .string q.fr, .int .i64 q.tm]) := by rw [hW1]; exact RowAt.next _ _ _ (by rw [size_al])
  have K1 := fun wx (hb : Below w.heap.size w wx) => hid (iSomeF s.wo.ad s.wo.n s.wo.cap s.wo.ts hs.wo.1 hs.wo.2 q.wo (by have := hq.wo; omega) wx (h.below hb).wo)
  have K2 := fun wx (hb : Below w.heap.size w wx) => hid (iSomeF s.wa.ad s.wa.n s.wa.cap s.wa.ts hs.wa.1 hs.wa.2 q.wa (by have := hq.wa; omega) wx (h.below hb).wa)
  have K3 := fun wx (hb : Below w.heap.size w wx) => hid (iSomeF s.wi.ad s.wi.n s.wi.cap s.wi.ts hs.wi.1 hs.wi.2 q.wi (by have := hq.wi; omega) wx (h.below hb).wi)
  have HC := hid (fun wx (hb : Below w.heap.size w wx) => (h.below hb).cs)
  have HCB := hid hs.cs
  have HQ := hid hq
  have HP := hid hp
  obtain ⟨b1, hb1⟩ : ∃ b, b = pb (smP s.wo.n s.wo.ts q.wo) := ⟨_, rfl⟩
  obtain ⟨b2, hb2⟩ : ∃ b, b = pb (smP s.wa.n s.wa.ts q.wa) := ⟨_, rfl⟩
  obtain ⟨b3, hb3⟩ : ∃ b, b = pb (smP s.wi.n s.wi.ts q.wi) := ⟨_, rfl⟩
  rw [← hb1] at K1
  rw [← hb2] at K2
  rw [← hb3] at K3
  have YES : Hid (b1 = true → b2 = true → b3 = true → (∀ i, i < s.cs.n → cnH (s.cs.o i) q) → pb (hitP s q) = true) := fun e1 e2 e3 e4 => by
    rw [hb1] at e1; rw [hb2] at e2; rw [hb3] at e3
    exact pb_t ⟨pb_iff.1 e1, pb_iff.1 e2, pb_iff.1 e3, e4⟩
  have NO : Hid (b1 = false ∨ b2 = false ∨ b3 = false ∨ (∃ i, i < s.cs.n ∧ ¬ cnH (s.cs.o i) q) → pb (hitP s q) = false) := fun e => pb_f fun z => by
    obtain ⟨z1, z2, z3, z4⟩ := z
    rcases e with e | e | e | ⟨i, hi, e⟩
    · rw [hb1, pb_t z1] at e; cases e
    · rw [hb2, pb_t z2] at e; cases e
    · rw [hb3, pb_t z3] at e; cases e
    · exact e (z4 i hi)
  obtain ⟨V, hV⟩ : ∃ V, V = pb (hitP s q) := ⟨_, rfl⟩
  rw [← hV] at YES NO ⊢
  clear h hs hq hp hb1 hb2 hb3 hV
  obtain ⟨ef, ⟨a1, n1, c1, t1⟩, ⟨a2, n2, c2, t2⟩, ⟨a3, n3, c3, t3⟩, ⟨a4, n4, c4, o4⟩⟩ := s
  have KH1 := fun wx tx ht => hid (iHold1 tx ht q wx)
  have KH2 := fun wx tm => hid (iHold2 tm q wx)
  have KH3 := fun wx tm => hid (iHold3 tm q wx)
  have KH4 := fun wx tx ht => hid (iHold4 tx ht q HQ.out wx)
  have HH1 := hid KH1
  have HH2 := hid KH2
  have HH3 := hid KH3
  have HH4 := hid KH4
  clear KH1 KH2 KH3 KH4
  obtain ⟨qwo, qwa, qwi, qfr, qtm⟩ := q
  dsimp only at K1 K2 K3 HC HCB HP YES NO R1 Q1 hW1 HH1 HH2 HH3 HH4 ⊢
  have r1 := R1.out.cell 1
  have q0 := Q1.out.cell 0
  go_enter Tryd.func15, Tryd.ntmps15
  go_upto_region 1 with fail
  rw [← hW1]
  clear hW1
  go_wp2_with fail
  refine (K1 W1 B1.out).out.mono ?_
  rintro e w2 ⟨rfl, hb⟩
  have R2 := hid (R1.out.below hb R1.out.lt)
  have Q2 := hid (Q1.out.below hb Q1.out.lt)
  have B2 := hid (B1.out.trans (hb.mono B1.out.size))
  clear hb K1 r1 q0 R1 Q1 B1
  cases b1 with
  | false =>
    have E := hid (NO.out (.inl rfl))
    go_wp2
    go_ret
    exact ⟨by rw [E.out]; rfl, B2.out⟩
  | true =>
    have r2 := R2.out.cell 2
    have q1 := Q2.out.cell 1
    go_wp2_with fail
    refine (K2 w2 B2.out).out.mono ?_
    rintro e w3 ⟨rfl, hb⟩
    have R3 := hid (R2.out.below hb R2.out.lt)
    have Q3 := hid (Q2.out.below hb Q2.out.lt)
    have B3 := hid (B2.out.trans (hb.mono B2.out.size))
    clear hb K2 r2 q1 R2 Q2 B2
    cases b2 with
    | false =>
      have E := hid (NO.out (.inr (.inl rfl)))
      go_wp2
      go_ret
      exact ⟨by rw [E.out]; rfl, B3.out⟩
    | true =>
      have r3 := R3.out.cell 3
      have q2 := Q3.out.cell 2
      go_wp2_with fail
      refine (K3 w3 B3.out).out.mono ?_
      rintro e w4 ⟨rfl, hb⟩
      have R4 := hid (R3.out.below hb R3.out.lt)
      have Q4 := hid (Q3.out.below hb Q3.out.lt)
      have B4 := hid (B3.out.trans (hb.mono B3.out.size))
      clear hb K3 r3 q2 R3 Q3 B3
      cases b3 with
      | false =>
        have E := hid (NO.out (.inr (.inr (.inl rfl))))
        go_wp2
        go_ret
        exact ⟨by rw [E.out]; rfl, B4.out⟩
      | true =>
        have r4 := R4.out.cell 4
        have hn4 : n4 ≤ 1048576 := HCB.out.1
        go_wp2_with fail
        clear r4
        go_loopw [32] (fun v wr => ∃ k : Nat, k ≤ n4 ∧ v = .int .i64 k ∧ (∀ i, i < k → cnH (o4 i) ⟨qwo, qwa, qwi, qfr, qtm⟩) ∧ Below w4.heap.size w4 wr) (fun v _ => n4 - (intOf v).toNat)
        case atStart => exact ⟨0, Nat.zero_le _, rfl, fun i hi => absurd hi (Nat.not_lt_zero _), Below.refl _ _⟩
        case round =>
          obtain ⟨k, hk, rfl, hall, hB⟩ := hrel
          have AL := hid hall
          have HB := hid hB
          clear hall hB
          have BW := hid (B4.out.trans (HB.out.mono B4.out.size))
          have Q5 := hid (Q4.out.below HB.out Q4.out.lt)
          by_cases hlt : k < n4
          · have hlt' : (k : Int) < (n4 : Int) := by omega
            have k0 : (0 : Int) ≤ (k : Int) := by omega
            rcases (HC.out wr BW.out).2 with h00 | ⟨b, off, rfl, hbl, hc⟩
            · omega
            obtain ⟨x0, x1, x2⟩ := hc k hlt
            have hsz : (o4 k).tx.size ≤ 1048576 := HCB.out.2 k hlt
            have hcp := HP.out k hlt
            obtain ⟨C, hC⟩ : ∃ C, C = o4 k := ⟨_, rfl⟩
            rw [← hC] at x0 x1 x2 hsz hcp
            have HCK := hid hC
            clear hc hC
            obtain ⟨kd, tx, tm⟩ := C
            dsimp only at x0 x1 x2 hsz
            obtain ⟨W6, hW6⟩ : ∃ W, W = wr.alloc (.cells #[.int .i64 kd, .string tx, .int .i64 tm] 42) := ⟨_, rfl⟩
            have b6 : Below wr.heap.size wr W6 := by rw [hW6]; exact (Below.refl _ _).alloc (Nat.le_refl _) _
            have C6 : Hid (RowAt W6 wr.heap.size 42 #[.int .i64 kd, .string tx, .int .i64 tm]) := by rw [hW6]; exact RowAt.new _ _ _
            have Q6 := hid (Q5.out.below b6 Q5.out.lt)
            have B6 : Hid (Below w4.heap.size w4 W6) := HB.out.trans (b6.mono HB.out.size)
            clear b6
            go_upto_region 6 with fail
            rw [← hW6]
            clear hW6 x0 x1 x2
            obtain ⟨X6, hX6⟩ : ∃ x, x = wr.heap.size := ⟨_, rfl⟩
            rw [← hX6] at C6 ⊢
            clear hX6
            have y0 := C6.out.cell 0
            have y1 := C6.out.cell 1
            have y2 := C6.out.cell 2
            have z0 := Q6.out.cell 0
            have z1 := Q6.out.cell 1
            have z2 := Q6.out.cell 2
            have z3 := Q6.out.cell 3
            have z4 := Q6.out.cell 4
            have NXT : Hid (cnH (o4 k) ⟨qwo, qwa, qwi, qfr, qtm⟩ → ∀ i, i < k + 1 → cnH (o4 i) ⟨qwo, qwa, qwi, qfr, qtm⟩) := fun q i hi => by
              by_cases e : i = k
              · subst e; exact q
              · exact AL.out i (by omega)
            have BAD : Hid (¬ cnH (o4 k) ⟨qwo, qwa, qwi, qfr, qtm⟩ → V = false) := fun q => NO.out (.inr (.inr (.inr ⟨k, hlt, q⟩)))
            rw [← HCK.out] at NXT BAD
            clear AL HC Q5
            have BF : Hid (∀ wx, Below w4.heap.size w4 wx → Below w.heap.size w wx) := fun wx hb => B4.out.trans (hb.mono B4.out.size)
            have KD : kd = 1 ∨ kd = 2 ∨ kd = 3 ∨ kd = 4 := by rcases hcp with ⟨z | z, _⟩ | ⟨z | z, _⟩ <;> dsimp only at z <;> omega
            clear hcp
            rcases KD with rfl | rfl | rfl | rfl
            · obtain ⟨bv, hbv⟩ : ∃ b, b = pb (bgP qwi tx) := ⟨_, rfl⟩
              have HBV : Hid (bv = true ↔ cnH ⟨1, tx, tm⟩ ⟨qwo, qwa, qwi, qfr, qtm⟩) := by show _ ↔ _; rw [hbv, cnH_1]; exact pb_iff
              have KK := fun wx => HH1.out wx tx hsz
              rw [← hbv] at KK
              have HKK := hid KK
              have hm := hd1
              clear hbv KK
              go_region_law (first | (go_simp; go_at_call 24; refine (iCond1 tx tm _).mono ?_; rintro e w7 ⟨rfl, hw7⟩; have b7 : Hid (Below W6.heap.size W6 w7) := (by rw [hw7]; first | exact (Below.refl _ _).alloc (Nat.le_refl _) _ | exact ((Below.refl _ _).drew).alloc (Nat.le_refl _) _); have Q7 := hid (Q6.out.below b7.out Q6.out.lt); have u0 := Q7.out.cell 0; have u1 := Q7.out.cell 1; have u2 := Q7.out.cell 2; have u3 := Q7.out.cell 3; have u4 := Q7.out.cell 4; clear hw7; dsimp only) | (go_simp; go_at_call 92; refine (HKK.out _).out.mono ?_; rintro e w8 ⟨rfl, hb8'⟩; have b8 : Hid (Below W6.heap.size W6 w8) := (by first | exact b7.out.trans (hb8'.mono b7.out.size) | exact b7.out.drew.trans (hb8'.mono b7.out.size)); clear hb8'; dsimp only))
              all_goals have B8 := hid (B6.out.trans (b8.out.mono B6.out.size))
              all_goals cases bv with
              | true =>
                have N2 := hid (NXT.out (HBV.out.1 rfl))
                go_wp2
                go_roundw
                case rel => exact ⟨k + 1, by omega, by go_num, N2.out, B8.out⟩
                case measure => simp [intOf]; omega
              | false =>
                have E := hid (BAD.out (fun zz => Bool.noConfusion (HBV.out.2 zz)))
                go_wp2
                go_ret
                exact ⟨by rw [E.out]; rfl, BF.out _ B8.out⟩
            · obtain ⟨bv, hbv⟩ : ∃ b, b = decide (qtm < tm) := ⟨_, rfl⟩
              have HBV : Hid (bv = true ↔ cnH ⟨2, tx, tm⟩ ⟨qwo, qwa, qwi, qfr, qtm⟩) := by show _ ↔ _; rw [hbv, cnH_2]; exact decide_eq_true_iff
              have KK := fun wx => HH2.out wx tm
              rw [← hbv] at KK
              have HKK := hid KK
              have hm := hd2
              clear hbv KK
              go_region_law (first | (go_simp; go_at_call 24; refine (iCond2 tx tm _).mono ?_; rintro e w7 ⟨rfl, hw7⟩; have b7 : Hid (Below W6.heap.size W6 w7) := (by rw [hw7]; first | exact (Below.refl _ _).alloc (Nat.le_refl _) _ | exact ((Below.refl _ _).drew).alloc (Nat.le_refl _) _); have Q7 := hid (Q6.out.below b7.out Q6.out.lt); have u0 := Q7.out.cell 0; have u1 := Q7.out.cell 1; have u2 := Q7.out.cell 2; have u3 := Q7.out.cell 3; have u4 := Q7.out.cell 4; clear hw7; dsimp only) | (go_simp; go_at_call 96; refine (HKK.out _).out.mono ?_; rintro e w8 ⟨rfl, hb8'⟩; have b8 : Hid (Below W6.heap.size W6 w8) := (by first | exact b7.out.trans (hb8'.mono b7.out.size) | exact b7.out.drew.trans (hb8'.mono b7.out.size)); clear hb8'; dsimp only))
              all_goals have B8 := hid (B6.out.trans (b8.out.mono B6.out.size))
              all_goals cases bv with
              | true =>
                have N2 := hid (NXT.out (HBV.out.1 rfl))
                go_wp2
                go_roundw
                case rel => exact ⟨k + 1, by omega, by go_num, N2.out, B8.out⟩
                case measure => simp [intOf]; omega
              | false =>
                have E := hid (BAD.out (fun zz => Bool.noConfusion (HBV.out.2 zz)))
                go_wp2
                go_ret
                exact ⟨by rw [E.out]; rfl, BF.out _ B8.out⟩
            · obtain ⟨bv, hbv⟩ : ∃ b, b = decide (tm < qtm) := ⟨_, rfl⟩
              have HBV : Hid (bv = true ↔ cnH ⟨3, tx, tm⟩ ⟨qwo, qwa, qwi, qfr, qtm⟩) := by show _ ↔ _; rw [hbv, cnH_3]; exact decide_eq_true_iff
              have KK := fun wx => HH3.out wx tm
              rw [← hbv] at KK
              have HKK := hid KK
              have hm := hd3
              clear hbv KK
              go_region_law (first | (go_simp; go_at_call 24; refine (iCond3 tx tm _).mono ?_; rintro e w7 ⟨rfl, hw7⟩; have b7 : Hid (Below W6.heap.size W6 w7) := (by rw [hw7]; first | exact (Below.refl _ _).alloc (Nat.le_refl _) _ | exact ((Below.refl _ _).drew).alloc (Nat.le_refl _) _); have Q7 := hid (Q6.out.below b7.out Q6.out.lt); have u0 := Q7.out.cell 0; have u1 := Q7.out.cell 1; have u2 := Q7.out.cell 2; have u3 := Q7.out.cell 3; have u4 := Q7.out.cell 4; clear hw7; dsimp only) | (go_simp; go_at_call 97; refine (HKK.out _).out.mono ?_; rintro e w8 ⟨rfl, hb8'⟩; have b8 : Hid (Below W6.heap.size W6 w8) := (by first | exact b7.out.trans (hb8'.mono b7.out.size) | exact b7.out.drew.trans (hb8'.mono b7.out.size)); clear hb8'; dsimp only))
              all_goals have B8 := hid (B6.out.trans (b8.out.mono B6.out.size))
              all_goals cases bv with
              | true =>
                have N2 := hid (NXT.out (HBV.out.1 rfl))
                go_wp2
                go_roundw
                case rel => exact ⟨k + 1, by omega, by go_num, N2.out, B8.out⟩
                case measure => simp [intOf]; omega
              | false =>
                have E := hid (BAD.out (fun zz => Bool.noConfusion (HBV.out.2 zz)))
                go_wp2
                go_ret
                exact ⟨by rw [E.out]; rfl, BF.out _ B8.out⟩
            · obtain ⟨bv, hbv⟩ : ∃ b, b = globV tx qfr := ⟨_, rfl⟩
              have HBV : Hid (bv = true ↔ cnH ⟨4, tx, tm⟩ ⟨qwo, qwa, qwi, qfr, qtm⟩) := by show _ ↔ _; rw [hbv, cnH_4]
              have KK := fun wx => HH4.out wx tx hsz
              rw [← hbv] at KK
              have HKK := hid KK
              have hm := hd4
              clear hbv KK
              go_region_law (first | (go_simp; go_at_call 24; refine (iCond4 tx tm _).mono ?_; rintro e w7 ⟨rfl, hw7⟩; have b7 : Hid (Below W6.heap.size W6 w7) := (by rw [hw7]; first | exact (Below.refl _ _).alloc (Nat.le_refl _) _ | exact ((Below.refl _ _).drew).alloc (Nat.le_refl _) _); have Q7 := hid (Q6.out.below b7.out Q6.out.lt); have u0 := Q7.out.cell 0; have u1 := Q7.out.cell 1; have u2 := Q7.out.cell 2; have u3 := Q7.out.cell 3; have u4 := Q7.out.cell 4; clear hw7; dsimp only) | (go_simp; go_at_call 98; refine (HKK.out _).out.mono ?_; rintro e w8 ⟨rfl, hb8'⟩; have b8 : Hid (Below W6.heap.size W6 w8) := (by first | exact b7.out.trans (hb8'.mono b7.out.size) | exact b7.out.drew.trans (hb8'.mono b7.out.size)); clear hb8'; dsimp only))
              all_goals have B8 := hid (B6.out.trans (b8.out.mono B6.out.size))
              all_goals cases bv with
              | true =>
                have N2 := hid (NXT.out (HBV.out.1 rfl))
                go_wp2
                go_roundw
                case rel => exact ⟨k + 1, by omega, by go_num, N2.out, B8.out⟩
                case measure => simp [intOf]; omega
              | false =>
                have E := hid (BAD.out (fun zz => Bool.noConfusion (HBV.out.2 zz)))
                go_wp2
                go_ret
                exact ⟨by rw [E.out]; rfl, BF.out _ B8.out⟩
          · have hlt' : ¬ (k : Int) < (n4 : Int) := by omega
            have E := hid (YES.out (by first | trivial | rfl) (by first | trivial | rfl) (by first | trivial | rfl) (fun i hi => AL.out i (by omega)))
            go_wp2
            go_ret
            exact ⟨by rw [E.out]; rfl, BW.out⟩
end Go.Proofs.YtmjolkagkeonfaaDoor
namespace Go.Proofs.YtmjolkagkeonfaaDoor
open Go.RowKit
set_option linter.unusedVariables false
/-! The program's Judge: the whole. -/
set_option maxRecDepth 20000 in
set_option maxHeartbeats 16000000 in
theorem iJudge (a : Option Addr) (m cap : Nat) (R : Nat → St) (hm : m ≤ 1048576) (hs : ∀ k, k < m → StB (R k) 1048576) (q : Aq) (hq : AqB q) (w : World) (h : Sts w a m cap R) :
    Calls Tryd.prog 5 #[.slice a m cap, .agg #[.string q.wo, .string q.wa, .string q.wi, .string q.fr, .int .i64 q.tm]] w fun e w' => e = .returned (.int .i64 (jdV m R q)) ∧ Below w.heap.size w w' := by
  obtain ⟨W1, hW1⟩ : ∃ W, W = w.alloc (.cells #[.string q.wo, .string q.wa, .string q.wi, .string q.fr, .int .i64 q.tm] 25) := ⟨_, rfl⟩
  have B1 : Hid (Below w.heap.size w W1) := by rw [hW1]; exact (Below.refl _ _).alloc (Nat.le_refl _) _
  have Q1 : Hid (RowAt W1 w.heap.size 25 #[.string q.wo, .string q.wa, .string q.wi, .string q.fr, .int .i64 q.tm]) := by rw [hW1]; exact RowAt.new _ _ _
  have KP := hid (iPolF a m cap R hm hs W1 (h.below B1.out))
  have KA := fun wx => hid (iAskF q hq wx)
  have HH : Hid (∀ wx, Below w.heap.size w wx → Sts wx a m cap R) := fun wx hb => h.below hb
  have KF : plP m R → ∀ k, k < m → ∀ wx, Below w.heap.size w wx → Hid (Calls Tryd.prog 15 #[.agg #[.int .i64 (R k).ef, .slice (R k).wo.ad (R k).wo.n (R k).wo.cap, .slice (R k).wa.ad (R k).wa.n (R k).wa.cap, .slice (R k).wi.ad (R k).wi.n (R k).wi.cap, .slice (R k).cs.ad (R k).cs.n (R k).cs.cap], .agg #[.string q.wo, .string q.wa, .string q.wi, .string q.fr, .int .i64 q.tm]] wx fun e w' => e = .returned (.bool (pb (hitP (R k) q))) ∧ Below wx.heap.size wx w') := fun hpl k hk wx hb => iHits (R k) (hs k hk) (hpl.2 k hk).1.2.2.2.2 q hq wx ((h.below hb).2.2 k hk)
  have HKF := hid KF
  obtain ⟨PV, hPV⟩ : ∃ v, v = plV m R := ⟨_, rfl⟩
  have HPV := hid (hPV ▸ plV_0 (m := m) (R := R))
  rw [← hPV] at KP
  have QR : Hid (∀ wx, Below W1.heap.size W1 wx → RowAt wx w.heap.size 25 #[.string q.wo, .string q.wa, .string q.wi, .string q.fr, .int .i64 q.tm]) := fun wx hb => Q1.out.below hb Q1.out.lt
  have JV : Hid ((¬ plP m R → jdV m R q = 0) ∧ (plP m R → dnP m R q → jdV m R q = 2) ∧ (plP m R → ¬ dnP m R q → alP m R q → jdV m R q = 1) ∧ (plP m R → ¬ dnP m R q → ¬ alP m R q → jdV m R q = 0)) := ⟨jdV_no, jdV_2, jdV_1, jdV_0⟩
  obtain ⟨V, hV⟩ : ∃ V, V = jdV m R q := ⟨_, rfl⟩
  rw [← hV] at JV ⊢
  have DN : Hid (∀ k, k < m → (R k).ef = 2 → hitP (R k) q → dnP m R q) := fun k hk e1 e2 => ⟨k, hk, e1, e2⟩
  have ALW : Hid (∀ k, k < m → hitP (R k) q → alP m R q) := fun k hk e2 => ⟨k, hk, e2⟩
  have NDN : Hid ((∀ i, i < m → ¬ ((R i).ef = 2 ∧ hitP (R i) q)) → ¬ dnP m R q) := fun z ⟨k, hk, e⟩ => z k hk e
  have NAL : Hid ((∀ i, i < m → ¬ hitP (R i) q) → ¬ alP m R q) := fun z ⟨k, hk, e⟩ => z k hk e
  clear h hs hq KF hPV hV
  obtain ⟨qwo, qwa, qwi, qfr, qtm⟩ := q
  dsimp only at HKF Q1 QR hW1 KA ⊢
  go_enter Tryd.func5, Tryd.ntmps5
  go_upto_region 1 with fail
  rw [← hW1]
  clear hW1
  go_wp2_with fail
  refine KP.out.mono ?_
  rintro e w2 ⟨rfl, hb⟩
  have B2 : Hid (Below W1.heap.size W1 w2) := hb
  have BW : Hid (∀ wx, Below W1.heap.size W1 wx → Below w.heap.size w wx) := fun wx hx => B1.out.trans (hx.mono B1.out.size)
  clear hb KP
  by_cases h0 : PV = 0
  case neg =>
    have d0 : (PV == 0) = false := beq_eq_false_iff_ne.2 h0
    have E := hid (JV.out.1 (fun z => h0 (HPV.out.2 z)))
    go_wp2
    go_ret
    exact ⟨by rw [E.out]; rfl, BW.out _ B2.out⟩
  have PL := hid (HPV.out.1 h0)
  clear HPV
  subst h0
  have QX := hid (QR.out w2 B2.out)
  have q0 := QX.out.cell 0
  have q1 := QX.out.cell 1
  have q2 := QX.out.cell 2
  have q3 := QX.out.cell 3
  have q4 := QX.out.cell 4
  go_wp2_with fail
  refine (KA w2).out.mono ?_
  rintro e w3 ⟨rfl, hb⟩
  have B3 : Hid (Below W1.heap.size W1 w3) := B2.out.trans (hb.mono B2.out.size)
  clear hb KA q0 q1 q2 q3 q4 QX B2
  go_wp2_with fail
  go_loopw [5, 18] (fun v5 v18 wr => ∃ (k : Nat) (J : Int), k ≤ m ∧ v18 = .int .i64 k ∧ v5 = .int .i64 J ∧ (∀ i, i < k → ¬ ((R i).ef = 2 ∧ hitP (R i) ⟨qwo, qwa, qwi, qfr, qtm⟩)) ∧ ((J = 1 ∧ ∃ i, i < k ∧ hitP (R i) ⟨qwo, qwa, qwi, qfr, qtm⟩) ∨ (J = 0 ∧ ∀ i, i < k → ¬ hitP (R i) ⟨qwo, qwa, qwi, qfr, qtm⟩)) ∧ Below W1.heap.size W1 wr) (fun _ v18 _ => m - (intOf v18).toNat)
  case atStart => exact ⟨0, 0, Nat.zero_le _, rfl, rfl, fun i hi => absurd hi (Nat.not_lt_zero _), .inr ⟨rfl, fun i hi => absurd hi (Nat.not_lt_zero _)⟩, B3.out⟩
  case round =>
    obtain ⟨k, J, hk, rfl, rfl, hno, hJ, hB⟩ := hrel
    have NO := hid hno
    have HJ := hid hJ
    have HB := hid hB
    clear hno hB hJ
    by_cases hlt : k < m
    · have hlt' : (k : Int) < (m : Int) := by omega
      have k0 : (0 : Int) ≤ (k : Int) := by omega
      have ST := HH.out wr (BW.out _ HB.out)
      rcases ST.2.1 with h00 | ⟨b, off, rfl, hbl, hc⟩
      · omega
      obtain ⟨c0, c1, c2, c3, c4⟩ := hc k hlt
      have KX := fun wx (hb : Below wr.heap.size wr wx) => HKF.out PL.out k hlt wx (BW.out _ (HB.out.trans (hb.mono HB.out.size)))
      have DK := hid (DN.out k hlt)
      have NK : Hid (¬ ((R k).ef = 2 ∧ hitP (R k) ⟨qwo, qwa, qwi, qfr, qtm⟩) → ∀ i, i < k + 1 → ¬ ((R i).ef = 2 ∧ hitP (R i) ⟨qwo, qwa, qwi, qfr, qtm⟩)) := fun z i hi => by
        by_cases e : i = k
        · subst e; exact z
        · exact NO.out i (by omega)
      have JK1 : Hid (hitP (R k) ⟨qwo, qwa, qwi, qfr, qtm⟩ → ∃ i, i < k + 1 ∧ hitP (R i) ⟨qwo, qwa, qwi, qfr, qtm⟩) := fun z => ⟨k, by omega, z⟩
      have JK0 : Hid (¬ hitP (R k) ⟨qwo, qwa, qwi, qfr, qtm⟩ → ((J = 1 ∧ ∃ i, i < k + 1 ∧ hitP (R i) ⟨qwo, qwa, qwi, qfr, qtm⟩) ∨ (J = 0 ∧ ∀ i, i < k + 1 → ¬ hitP (R i) ⟨qwo, qwa, qwi, qfr, qtm⟩))) := fun z => by
        rcases HJ.out with ⟨e, i, hi, h⟩ | ⟨e, h⟩
        · exact .inl ⟨e, i, by omega, h⟩
        · refine .inr ⟨e, fun i hi => ?_⟩
          by_cases e2 : i = k
          · subst e2; exact z
          · exact h i (by omega)
      clear ST hc
      generalize R k = S at c0 c1 c2 c3 c4 KX DK NK JK1 JK0
      obtain ⟨bv, hbv⟩ : ∃ b, b = pb (hitP S ⟨qwo, qwa, qwi, qfr, qtm⟩) := ⟨_, rfl⟩
      rw [← hbv] at KX
      have HBV := hid hbv
      clear hbv
      obtain ⟨W6, hW6⟩ : ∃ W, W = wr.alloc (.cells #[.int .i64 S.ef, .slice S.wo.ad S.wo.n S.wo.cap, .slice S.wa.ad S.wa.n S.wa.cap, .slice S.wi.ad S.wi.n S.wi.cap, .slice S.cs.ad S.cs.n S.cs.cap] 33) := ⟨_, rfl⟩
      have b6 : Hid (Below wr.heap.size wr W6) := by rw [hW6]; exact (Below.refl _ _).alloc (Nat.le_refl _) _
      have R6 : Hid (RowAt W6 wr.heap.size 33 #[.int .i64 S.ef, .slice S.wo.ad S.wo.n S.wo.cap, .slice S.wa.ad S.wa.n S.wa.cap, .slice S.wi.ad S.wi.n S.wi.cap, .slice S.cs.ad S.cs.n S.cs.cap]) := by rw [hW6]; exact RowAt.new _ _ _
      have B6 : Hid (Below W1.heap.size W1 W6) := HB.out.trans (b6.out.mono HB.out.size)
      have QX := hid (QR.out W6 B6.out)
      have KX6 := KX W6 b6.out
      obtain ⟨ef, ⟨a1, n1, x1, t1⟩, ⟨a2, n2, x2, t2⟩, ⟨a3, n3, x3, t3⟩, ⟨a4, n4, x4, o4⟩⟩ := S
      dsimp only at c0 c1 c2 c3 c4 KX6 R6 hW6
      clear KX
      go_upto_region 7 with fail
      rw [← hW6]
      clear hW6 c0 c1 c2 c3 c4
      obtain ⟨X6, hX6⟩ : ∃ x, x = wr.heap.size := ⟨_, rfl⟩
      rw [← hX6] at R6 ⊢
      clear hX6
      have q0 := QX.out.cell 0
      have q1 := QX.out.cell 1
      have q2 := QX.out.cell 2
      have q3 := QX.out.cell 3
      have q4 := QX.out.cell 4
      have y0 := R6.out.cell 0
      have y1 := R6.out.cell 1
      have y2 := R6.out.cell 2
      have y3 := R6.out.cell 3
      have y4 := R6.out.cell 4
      go_wp2_with fail
      refine KX6.out.mono ?_
      rintro e w7 ⟨rfl, hb⟩
      have R7 := hid (R6.out.below hb R6.out.lt)
      have B7 : Hid (Below W1.heap.size W1 w7) := B6.out.trans (hb.mono B6.out.size)
      clear hb KX6 q0 q1 q2 q3 q4 y0 y1 y2 y3 y4 R6 QX
      have y0 := R7.out.cell 0
      cases bv with
      | false =>
        have HN := hid (pb_not.1 HBV.out.symm)
        have N2 := hid (NK.out (fun z => HN.out z.2))
        have J2 := hid (JK0.out HN.out)
        go_wp2
        go_roundw
        case rel => exact ⟨k + 1, J, by omega, by go_num, rfl, N2.out, J2.out, B7.out⟩
        case measure => simp [intOf]; omega
      | true =>
        have HY := hid (pb_iff.1 HBV.out.symm)
        by_cases e2 : ef = 2
        · have E := hid (JV.out.2.1 PL.out (DK.out e2 HY.out))
          subst e2
          go_wp2
          go_ret
          exact ⟨by rw [E.out]; rfl, BW.out _ B7.out⟩
        · have d2 : (ef == 2) = false := beq_eq_false_iff_ne.2 e2
          have N2 := hid (NK.out (fun z => e2 z.1))
          have J2 := hid (JK1.out HY.out)
          go_wp2
          go_roundw
          case rel => exact ⟨k + 1, 1, by omega, by go_num, rfl, N2.out, .inl ⟨rfl, J2.out⟩, B7.out⟩
          case measure => simp [intOf]; omega
    · have hlt' : ¬ (k : Int) < (m : Int) := by omega
      have ND := hid (NDN.out (fun i hi => NO.out i (by omega)))
      have E : Hid (V = J) := by
        rcases HJ.out with ⟨e, i, hi, h⟩ | ⟨e, h⟩
        · rw [e]; exact JV.out.2.2.1 PL.out ND.out (ALW.out i (by omega) h)
        · rw [e]; exact JV.out.2.2.2 PL.out ND.out (NAL.out (fun i hi => h i (by omega)))
      go_wp2
      go_ret
      exact ⟨by rw [E.out]; rfl, BW.out _ HB.out⟩
end Go.Proofs.YtmjolkagkeonfaaDoor
namespace Go.Proofs.YtmjolkagkeonfaaDoor
open Go.RowKit
set_option linter.unusedVariables false
/-! Judging: a list turned round, a list with one more behind; statements appended. -/
theorem fit_all : ∀ (t : List UInt8), Fit [42] t
  | [] => .star0 .nil
  | b :: t => .star1 (fit_all t)
theorem globV_star {t : ByteArray} (h : t.size ≤ 2000) : globV ⟨#[42]⟩ t = true := by
  unfold globV
  rw [glB_t (fit_all t.data.toList)]
  simp
  exact ⟨by decide, h⟩
/-- two lists with the same members -/
theorem jdV_same {m : Nat} {R R' : Nat → St} {q : Aq} (h1 : ∀ k, k < m → ∃ j, j < m ∧ R' j = R k) (h2 : ∀ k, k < m → ∃ j, j < m ∧ R j = R' k) : jdV m R q = jdV m R' q := by
  have e1 : plP m R ↔ plP m R' := by
    unfold plP
    refine and_congr_right fun _ => ⟨fun f k hk => ?_, fun f k hk => ?_⟩
    · obtain ⟨j, hj, e⟩ := h2 k hk; rw [← e]; exact f j hj
    · obtain ⟨j, hj, e⟩ := h1 k hk; rw [← e]; exact f j hj
  have e2 : dnP m R q ↔ dnP m R' q := by
    unfold dnP
    refine ⟨fun ⟨k, hk, f⟩ => ?_, fun ⟨k, hk, f⟩ => ?_⟩
    · obtain ⟨j, hj, e⟩ := h1 k hk; exact ⟨j, hj, by rw [e]; exact f⟩
    · obtain ⟨j, hj, e⟩ := h2 k hk; exact ⟨j, hj, by rw [e]; exact f⟩
  have e3 : alP m R q ↔ alP m R' q := by
    unfold alP
    refine ⟨fun ⟨k, hk, f⟩ => ?_, fun ⟨k, hk, f⟩ => ?_⟩
    · obtain ⟨j, hj, e⟩ := h1 k hk; exact ⟨j, hj, by rw [e]; exact f⟩
    · obtain ⟨j, hj, e⟩ := h2 k hk; exact ⟨j, hj, by rw [e]; exact f⟩
  unfold jdV
  rw [pb_congr e1, pb_congr e2, pb_congr e3]
theorem jdV_rev {m : Nat} {R R' : Nat → St} {q : Aq} (h : ∀ k, k < m → R' k = R (m - 1 - k)) : jdV m R' q = jdV m R q := by
  refine (jdV_same (fun k hk => ⟨m - 1 - k, by omega, ?_⟩) fun k hk => ⟨m - 1 - k, by omega, (h k hk).symm⟩).symm
  rw [h _ (by omega), show m - 1 - (m - 1 - k) = k by omega]
/-- a statement of stars -/
def stS (ef : Int) (ad : Option Addr) : St := ⟨ef, ⟨ad, 1, 1, fun _ => ⟨#[42]⟩⟩, ⟨ad, 1, 1, fun _ => ⟨#[42]⟩⟩, ⟨ad, 1, 1, fun _ => ⟨#[42]⟩⟩, ⟨none, 0, 0, fun _ => ⟨0, ⟨#[]⟩, 0⟩⟩⟩
theorem smP_star {t : ByteArray} (h : t.size ≤ 2000) : smP 1 (fun _ => ⟨#[42]⟩) t := ⟨0, by omega, globV_star h⟩
theorem hit_star (ef : Int) (ad : Option Addr) {q : Aq} (h1 : q.wo.size ≤ 2000) (h2 : q.wa.size ≤ 2000) (h3 : q.wi.size ≤ 2000) : hitP (stS ef ad) q :=
  ⟨smP_star h1, smP_star h2, smP_star h3, fun i hi => absurd hi (Nat.not_lt_zero _)⟩
theorem wdP_star : wdP (⟨#[42]⟩ : ByteArray) := by
  refine ⟨by decide, by decide, fun j hj => ?_⟩
  have e : j = 0 := by have : j < 1 := hj; omega
  subst e; exact (by decide : 33 ≤ (42 : UInt8).toNat ∧ (42 : UInt8).toNat ≤ 126)
theorem cmP_star : ¬ cmP (⟨#[42]⟩ : ByteArray) := by
  rintro ⟨j, hj, e⟩
  have e0 : j = 0 := by have : j < 1 := hj; omega
  subst e0; exact absurd (show (42 : UInt8) = 44 from e) (by decide)
theorem lsP_star : lsP 1 (fun _ => (⟨#[42]⟩ : ByteArray)) := ⟨Nat.le_refl _, by omega, fun i hi => ⟨wdP_star, cmP_star⟩⟩
theorem stP_star {ef : Int} (h : ef = 1 ∨ ef = 2) (ad : Option Addr) : stP (stS ef ad) := ⟨h, lsP_star, lsP_star, lsP_star, fun i hi => absurd hi (Nat.not_lt_zero _)⟩
theorem plP_more {m : Nat} {R R' : Nat → St} {ef : Int} {ad : Option Addr} (h : plP m R) (hm : m ≠ 50) (hs : ∀ k, k < m → R' k = R k) (he : R' m = stS ef ad) (hef : ef = 1 ∨ ef = 2) : plP (m + 1) R' := by
  refine ⟨by have := h.1; omega, fun k hk => ?_⟩
  by_cases e : k = m
  · subst e; rw [he]; exact ⟨stP_star hef ad, Nat.zero_le _⟩
  · rw [hs k (by omega)]; exact h.2 k (by omega)
theorem jdV_deny {m : Nat} {R R' : Nat → St} {q : Aq} {ad : Option Addr} (h : plP m R) (hm : m ≠ 50) (hs : ∀ k, k < m → R' k = R k) (he : R' m = stS 2 ad) (h1 : q.wo.size ≤ 2000) (h2 : q.wa.size ≤ 2000) (h3 : q.wi.size ≤ 2000) : jdV (m + 1) R' q = 2 :=
  jdV_2 (plP_more h hm hs he (.inr rfl)) ⟨m, by omega, by rw [he]; rfl, by rw [he]; exact hit_star _ _ h1 h2 h3⟩
theorem dnP_more {m : Nat} {R R' : Nat → St} {q : Aq} {ad : Option Addr} (hs : ∀ k, k < m → R' k = R k) (he : R' m = stS 1 ad) : dnP (m + 1) R' q ↔ dnP m R q := by
  refine ⟨fun ⟨k, hk, e, f⟩ => ?_, fun ⟨k, hk, f⟩ => ⟨k, by omega, by rw [hs k hk]; exact f⟩⟩
  by_cases e0 : k = m
  · subst e0; rw [he] at e; exact absurd (show (1 : Int) = 2 from e) (by decide)
  · rw [hs k (by omega)] at e f; exact ⟨k, by omega, e, f⟩
theorem jdV_allow {m : Nat} {R R' : Nat → St} {q : Aq} {ad : Option Addr} (h : plP m R) (hm : m ≠ 50) (hs : ∀ k, k < m → R' k = R k) (he : R' m = stS 1 ad) (h1 : q.wo.size ≤ 2000) (h2 : q.wa.size ≤ 2000) (h3 : q.wi.size ≤ 2000) : (jdV m R q = 2 ∧ jdV (m + 1) R' q = 2) ∨ (jdV m R q ≠ 2 ∧ jdV (m + 1) R' q = 1) := by
  have hp := plP_more h hm hs he (.inl rfl)
  by_cases hd : dnP m R q
  · exact .inl ⟨jdV_2 h hd, jdV_2 hp ((dnP_more hs he).2 hd)⟩
  · refine .inr ⟨?_, jdV_1 hp (fun z => hd ((dnP_more hs he).1 z)) ⟨m, by omega, by rw [he]; exact hit_star _ _ h1 h2 h3⟩⟩
    by_cases ha : alP m R q
    · rw [jdV_1 h hd ha]; decide
    · rw [jdV_0 h hd ha]; decide
/-- an empty list lets nothing through -/
theorem jdV_nil (R : Nat → St) (q : Aq) : jdV 0 R q = 0 := jdV_0 ⟨Nat.zero_le _, fun k hk => absurd hk (Nat.not_lt_zero _)⟩ (fun ⟨k, hk, _⟩ => absurd hk (Nat.not_lt_zero _)) (fun ⟨k, hk, _⟩ => absurd hk (Nat.not_lt_zero _))
/-- what a call owns reads as statements -/
theorem stL_len (L : List St) : (stL L).length = L.length * 5 := by
  induction L with
  | nil => rfl
  | cons e L ih => simp [stL] at ih ⊢; omega
theorem stL_one (L : List St) : ∀ u ∈ stL L, u.oneCell' = true := by
  intro u hu
  simp only [stL, List.mem_flatMap] at hu
  obtain ⟨e, _, hu⟩ := hu
  simp at hu
  rcases hu with rfl | rfl | rfl | rfl | rfl <;> rfl
/-- many statements are appended -/
theorem append_sts {ops : Array Oper} {rest : List Oper} {o : Oper} {a : Act} {Q : Exit → Act → World → Prop} (base : Nat) (wr : World) (hgd : o.guard = none) (s x : Operand)
    (ho : o.op = .call { callee := .builtin .append, args := #[s, x], argTypes := #[23, 23] })
    (v : Value) (L M : List St) (hs : a.eval s = v) (hown : OwnSt wr base v L) (hsz : base ≤ wr.heap.size)
    (ad : Option Addr) (c : Nat) (hx : a.eval x = .slice ad M.length c) (hn : ad = none → c = 0) (hM : Sts wr ad M.length c (stA M)) (hlen : L.length + M.length ≤ 1048576)
    (h : ∀ v' w', OwnSt w' base v' (L ++ M) → wr.grownBy w' v.ownBlock → wpList Tryd.prog ops Q rest (a.put o.dst v') w') :
    wpList Tryd.prog ops Q (o :: rest) a wr := by
  obtain ⟨i0, hi, hz0, hz1, hz2⟩ := info_parts Tryd.infoSt2
  cases ad with
  | none =>
    have hc0 := hn rfl
    subst hc0
    have hl0 : M.length = 0 := by have := hM.1; omega
    have hM0 : M = [] := List.eq_nil_of_length_eq_zero hl0
    subst hM0
    refine wpList_append_own_none hgd s x 23 ho base 33 i0 5 Tryd.underlying23 hi v L.length _ hs hown hx ?_
    refine h v wr (by rw [List.append_nil]; exact hown) ?_
    exact ⟨rfl, rfl, rfl, Nat.le_refl _, fun _ _ _ => rfl⟩
  | some ad =>
    refine wpList_append_own _ hgd s x 23 ho base 33 i0 _ 5 104 Tryd.underlying23 hi hz0 hz1 hz2 rfl (by decide) v L.length _ hs hown ad M.length c (stL M) hx (stL_len M) ?_ (stL_one M) ?_ ?_ hsz ?_
    · intro j u hj
      have hl : j < M.length * 5 := by rw [← stL_len]; exact (List.getElem?_eq_some_iff.1 hj).1
      obtain ⟨q0, q1, q2, q3, q4⟩ := stL_at M (j / 5) (by omega)
      rcases hM.2.1 with h0 | ⟨b, off, e, hb, hc⟩
      · omega
      have e := Option.some.inj e
      subst e
      obtain ⟨r0, r1, r2, r3, r4⟩ := hc (j / 5) (by omega)
      have ad0 : ∀ k, (⟨b, off, none⟩ : Addr).add k = ⟨b, off + k, none⟩ := fun k => by cases k <;> rfl
      rcases (by omega : j = j / 5 * 5 ∨ j = j / 5 * 5 + 1 ∨ j = j / 5 * 5 + 2 ∨ j = j / 5 * 5 + 3 ∨ j = j / 5 * 5 + 4) with e | e | e | e | e
      · rw [e] at hj ⊢; rw [q0] at hj; rw [← hj, ad0]; exact r0
      · rw [e] at hj ⊢; rw [q1] at hj; rw [← hj]; exact r1
      · rw [e] at hj ⊢; rw [q2] at hj; rw [← hj]; exact r2
      · rw [e] at hj ⊢; rw [q3] at hj; rw [← hj]; exact r3
      · rw [e] at hj ⊢; rw [q4] at hj; rw [← hj]; exact r4
    · unfold maxLen; omega
    · omega
    · intro v' w' h1 h2 h3
      refine h v' w' ?_ h2
      unfold OwnSt
      rw [stL_app, List.length_append]
      exact h1
end Go.Proofs.YtmjolkagkeonfaaDoor
