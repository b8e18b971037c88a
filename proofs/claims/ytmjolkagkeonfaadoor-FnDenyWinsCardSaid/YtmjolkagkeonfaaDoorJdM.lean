import Derived.Test.YtmjolkagkeonfaaDoorSGlob
import Derived.Test.YtmjolkagkeonfaaDoorGO
import Derived.Test.YtmjolkagkeonfaaDoorGD
import Derived.Test.YtmjolkagkeonfaaDoorGH
import Derived.Test.YtmjolkagkeonfaaDoorGG
import Derived.Test.YtmjolkagkeonfaaDoorGC
import Derived.Lib.MinMax
namespace Go.Proofs.YtmjolkagkeonfaaDoor
open Go.RowKit
set_option linter.unusedVariables false
/-! Judging: what it gives; the specification's pieces. -/
structure Aq where
  wo : ByteArray
  wa : ByteArray
  wi : ByteArray
  fr : ByteArray
  tm : Int
structure AqB (q : Aq) : Prop where
  wo : q.wo.size ≤ 100000
  wa : q.wa.size ≤ 100000
  wi : q.wi.size ≤ 100000
  fr : q.fr.size ≤ 100000
def smP (n : Nat) (ts : Nat → ByteArray) (t : ByteArray) : Prop := ∃ i, i < n ∧ globV (ts i) t = true
def cnH (c : Cn) (q : Aq) : Prop := (c.kd = 1 ∧ bgP q.wi c.tx) ∨ (c.kd = 2 ∧ q.tm < c.tm) ∨ (c.kd = 3 ∧ c.tm < q.tm) ∨ (c.kd = 4 ∧ globV c.tx q.fr = true)
def hitP (s : St) (q : Aq) : Prop := smP s.wo.n s.wo.ts q.wo ∧ smP s.wa.n s.wa.ts q.wa ∧ smP s.wi.n s.wi.ts q.wi ∧ ∀ i, i < s.cs.n → cnH (s.cs.o i) q
def dnP (m : Nat) (R : Nat → St) (q : Aq) : Prop := ∃ k, k < m ∧ (R k).ef = 2 ∧ hitP (R k) q
def alP (m : Nat) (R : Nat → St) (q : Aq) : Prop := ∃ k, k < m ∧ hitP (R k) q
noncomputable def jdV (m : Nat) (R : Nat → St) (q : Aq) : Int := if pb (plP m R) then (if pb (dnP m R q) then 2 else if pb (alP m R q) then 1 else 0) else 0
theorem jdV_no {m : Nat} {R : Nat → St} {q : Aq} (h : ¬ plP m R) : jdV m R q = 0 := by unfold jdV; rw [pb_f h]; rfl
theorem jdV_2 {m : Nat} {R : Nat → St} {q : Aq} (h : plP m R) (h2 : dnP m R q) : jdV m R q = 2 := by unfold jdV; rw [pb_t h, pb_t h2]; rfl
theorem jdV_1 {m : Nat} {R : Nat → St} {q : Aq} (h : plP m R) (h2 : ¬ dnP m R q) (h3 : alP m R q) : jdV m R q = 1 := by unfold jdV; rw [pb_t h, pb_f h2, pb_t h3]; rfl
theorem jdV_0 {m : Nat} {R : Nat → St} {q : Aq} (h : plP m R) (h2 : ¬ dnP m R q) (h3 : ¬ alP m R q) : jdV m R q = 0 := by unfold jdV; rw [pb_t h, pb_f h2, pb_f h3]; rfl
set_option maxRecDepth 20000 in
set_option maxHeartbeats 2000000 in
theorem sSome (a : Option Addr) (n cap : Nat) (ts : Nat → ByteArray) (t : ByteArray) (hn : n ≤ 1048576) (hs : ∀ i, i < n → (ts i).size ≤ 1048576) (ht : t.size ≤ 1048576) (w : World) (h : Strs w a n cap ts) :
    Calls Tryd.prog 25 #[.slice a n cap, .string t] w fun e w' => e = .returned (.bool (pb (smP n ts t))) ∧ Below w.heap.size w w' := by
  have HH := hid h
  have HS := hid hs
  clear h hs
  go_enter Tryd.func25, Tryd.ntmps25
  go_wp2_with fail
  go_loopw [5] (fun q wr => ∃ k : Nat, k ≤ n ∧ q = .int .i64 k ∧ (∀ i, i < k → globV (ts i) t = false) ∧ Below w.heap.size w wr) (fun q _ => n - (intOf q).toNat)
  case atStart => exact ⟨0, Nat.zero_le _, rfl, fun i hi => absurd hi (Nat.not_lt_zero _), Below.refl _ _⟩
  case round =>
    obtain ⟨k, hk, rfl, hno, hB⟩ := hrel
    have NO := hid hno
    have HB := hid hB
    clear hno hB
    by_cases hlt : k < n
    · have hlt' : (k : Int) < (n : Int) := by omega
      have k0 : (0 : Int) ≤ (k : Int) := by omega
      rcases (HH.out.below HB.out).2 with h00 | ⟨b, off, rfl, hbl, hc⟩
      · omega
      have c0 := hc k hlt
      have KG := hid (sGlob (ts k) t (by have := HS.out k hlt; omega) (by omega) wr)
      obtain ⟨x, hx⟩ : ∃ x, x = ts k := ⟨_, rfl⟩
      rw [← hx] at c0 KG
      obtain ⟨gv, hgv⟩ : ∃ b, b = globV x t := ⟨_, rfl⟩
      rw [← hgv] at KG
      have HX : Hid (gv = globV (ts k) t) := by rw [← hx]; exact hgv
      clear hc hx hgv
      go_wp2_with fail
      refine KG.out.mono ?_
      rintro e w2 ⟨rfl, hb2⟩
      have B2 := hid (HB.out.trans (hb2.mono HB.out.size))
      clear hb2 KG c0 HB
      cases gv with
      | true =>
        have E : Hid (pb (smP n ts t) = true) := pb_t ⟨k, hlt, HX.out.symm⟩
        go_wp2
        go_ret
        exact ⟨by rw [E.out]; rfl, B2.out⟩
      | false =>
        have N2 : Hid (∀ i, i < k + 1 → globV (ts i) t = false) := fun i hi => by
          by_cases e : i = k
          · subst e; exact HX.out.symm
          · exact NO.out i (by omega)
        go_wp2
        go_roundw
        case rel => exact ⟨k + 1, by omega, by go_num, N2.out, B2.out⟩
        case measure => simp [intOf]; omega
    · have hlt' : ¬ (k : Int) < (n : Int) := by omega
      have E : Hid (pb (smP n ts t) = false) := pb_f fun ⟨i, hi, e⟩ => by rw [NO.out i (by omega)] at e; cases e
      go_wp2
      go_ret
      exact ⟨by rw [E.out]; rfl, HB.out⟩
set_option maxRecDepth 20000 in
set_option maxHeartbeats 8000000 in
theorem sFits (s : St) (hs : StB s 1048576) (q : Aq) (hq : AqB q) (w : World) (h : StIn w s) :
    Calls Tryd.prog 16 #[.agg #[.int .i64 s.ef, .slice s.wo.ad s.wo.n s.wo.cap, .slice s.wa.ad s.wa.n s.wa.cap, .slice s.wi.ad s.wi.n s.wi.cap, .slice s.cs.ad s.cs.n s.cs.cap], .agg #[.string q.wo, .string q.wa, .string q.wi, .string q.fr, .int .i64 q.tm]] w fun e w' => e = .returned (.bool (pb (hitP s q))) ∧ Below w.heap.size w w' := by
  obtain ⟨W1, hW1⟩ : ∃ W, W = (w.alloc (.cells #[.int .i64 s.ef, .slice s.wo.ad s.wo.n s.wo.cap, .slice s.wa.ad s.wa.n s.wa.cap, .slice s.wi.ad s.wi.n s.wi.cap, .slice s.cs.ad s.cs.n s.cs.cap] 33)).alloc (.cells #[.string q.wo, .string q.wa, .string q.wi, .string q.fr, .int .i64 q.tm] 25) := ⟨_, rfl⟩
  have B1 : Hid (Below w.heap.size w W1) := by rw [hW1]; exact ((Below.refl _ _).alloc (Nat.le_refl _) _).alloc (by rw [size_al]; omega) _
  have R1 : Hid (RowAt W1 w.heap.size 33 #[.int .i64 s.ef, .slice s.wo.ad s.wo.n s.wo.cap, .slice s.wa.ad s.wa.n s.wa.cap, .slice s.wi.ad s.wi.n s.wi.cap, .slice s.cs.ad s.cs.n s.cs.cap]) := by rw [hW1]; exact (RowAt.new _ _ _).alloc _
  have Q1 : Hid (RowAt W1 (w.heap.size + 1) 25 #[.string q.wo, .string q.wa, .string q.wi, .string q.fr, .int .i64 q.tm]) := by rw [hW1]; exact RowAt.next _ _ _ (by rw [size_al])
  have K1 := fun wx (hb : Below w.heap.size w wx) => hid (sSome s.wo.ad s.wo.n s.wo.cap s.wo.ts q.wo hs.wo.1 hs.wo.2 (by have := hq.wo; omega) wx (h.below hb).wo)
  have K2 := fun wx (hb : Below w.heap.size w wx) => hid (sSome s.wa.ad s.wa.n s.wa.cap s.wa.ts q.wa hs.wa.1 hs.wa.2 (by have := hq.wa; omega) wx (h.below hb).wa)
  have K3 := fun wx (hb : Below w.heap.size w wx) => hid (sSome s.wi.ad s.wi.n s.wi.cap s.wi.ts q.wi hs.wi.1 hs.wi.2 (by have := hq.wi; omega) wx (h.below hb).wi)
  have HC := hid (fun wx (hb : Below w.heap.size w wx) => (h.below hb).cs)
  have HCB := hid hs.cs
  have HQ := hid hq
  obtain ⟨b1, hb1⟩ : ∃ b, b = pb (smP s.wo.n s.wo.ts q.wo) := ⟨_, rfl⟩
  obtain ⟨b2, hb2⟩ : ∃ b, b = pb (smP s.wa.n s.wa.ts q.wa) := ⟨_, rfl⟩
  obtain ⟨b3, hb3⟩ : ∃ b, b = pb (smP s.wi.n s.wi.ts q.wi) := ⟨_, rfl⟩
  rw [← hb1] at K1
  rw [← hb2] at K2
  rw [← hb3] at K3
  have YES : Hid (b1 = true → b2 = true → b3 = true → (∀ i, i < s.cs.n → cnH (s.cs.o i) q) → pb (hitP s q) = true) := fun e1 e2 e3 e4 => by
    rw [hb1] at e1; rw [hb2] at e2; rw [hb3] at e3
    exact pb_t ⟨pb_iff.1 e1, pb_iff.1 e2, pb_iff.1 e3, e4⟩
  have NO : Hid (b1 = false ∨ b2 = false ∨ b3 = false ∨ (∃ i, i < s.cs.n ∧ ¬ cnH (s.cs.o i) q) → pb (hitP s q) = false) := fun e => pb_f fun z => by
    obtain ⟨z1, z2, z3, z4⟩ := z
    rcases e with e | e | e | ⟨i, hi, e⟩
    · rw [hb1, pb_t z1] at e; cases e
    · rw [hb2, pb_t z2] at e; cases e
    · rw [hb3, pb_t z3] at e; cases e
    · exact e (z4 i hi)
  obtain ⟨V, hV⟩ : ∃ V, V = pb (hitP s q) := ⟨_, rfl⟩
  rw [← hV] at YES NO ⊢
  clear h hs hq hb1 hb2 hb3 hV
  obtain ⟨ef, ⟨a1, n1, c1, t1⟩, ⟨a2, n2, c2, t2⟩, ⟨a3, n3, c3, t3⟩, ⟨a4, n4, c4, o4⟩⟩ := s
  obtain ⟨qwo, qwa, qwi, qfr, qtm⟩ := q
  dsimp only at K1 K2 K3 HC HCB YES NO R1 Q1 hW1 ⊢
  have r1 := R1.out.cell 1
  have q0 := Q1.out.cell 0
  go_enter Tryd.func16, Tryd.ntmps16
  go_upto_region 1 with fail
  rw [← hW1]
  clear hW1
  go_wp2_with fail
  refine (K1 W1 B1.out).out.mono ?_
  rintro e w2 ⟨rfl, hb⟩
  have R2 := hid (R1.out.below hb R1.out.lt)
  have Q2 := hid (Q1.out.below hb Q1.out.lt)
  have B2 := hid (B1.out.trans (hb.mono B1.out.size))
  clear hb K1 r1 q0 R1 Q1 B1
  cases b1 with
  | false =>
    have E := hid (NO.out (.inl rfl))
    go_wp2
    go_ret
    exact ⟨by rw [E.out]; rfl, B2.out⟩
  | true =>
    have r2 := R2.out.cell 2
    have q1 := Q2.out.cell 1
    go_wp2_with fail
    refine (K2 w2 B2.out).out.mono ?_
    rintro e w3 ⟨rfl, hb⟩
    have R3 := hid (R2.out.below hb R2.out.lt)
    have Q3 := hid (Q2.out.below hb Q2.out.lt)
    have B3 := hid (B2.out.trans (hb.mono B2.out.size))
    clear hb K2 r2 q1 R2 Q2 B2
    cases b2 with
    | false =>
      have E := hid (NO.out (.inr (.inl rfl)))
      go_wp2
      go_ret
      exact ⟨by rw [E.out]; rfl, B3.out⟩
    | true =>
      have r3 := R3.out.cell 3
      have q2 := Q3.out.cell 2
      go_wp2_with fail
      refine (K3 w3 B3.out).out.mono ?_
      rintro e w4 ⟨rfl, hb⟩
      have R4 := hid (R3.out.below hb R3.out.lt)
      have Q4 := hid (Q3.out.below hb Q3.out.lt)
      have B4 := hid (B3.out.trans (hb.mono B3.out.size))
      clear hb K3 r3 q2 R3 Q3 B3
      cases b3 with
      | false =>
        have E := hid (NO.out (.inr (.inr (.inl rfl))))
        go_wp2
        go_ret
        exact ⟨by rw [E.out]; rfl, B4.out⟩
      | true =>
        go_wp2_with fail
        go_loopw [5] (fun v wr => ∃ k : Nat, k ≤ n4 ∧ v = .int .i64 k ∧ (∀ i, i < k → cnH (o4 i) ⟨qwo, qwa, qwi, qfr, qtm⟩) ∧ Below w4.heap.size w4 wr) (fun v _ => n4 - (intOf v).toNat)
        case atStart => exact ⟨0, Nat.zero_le _, rfl, fun i hi => absurd hi (Nat.not_lt_zero _), Below.refl _ _⟩
        case round =>
          obtain ⟨k, hk, rfl, hall, hB⟩ := hrel
          have AL := hid hall
          have HB := hid hB
          clear hall hB
          have BW := hid (B4.out.trans (HB.out.mono B4.out.size))
          have hn4 : n4 ≤ 1048576 := HCB.out.1
          have R5 := hid (R4.out.below HB.out R4.out.lt)
          have Q5 := hid (Q4.out.below HB.out Q4.out.lt)
          have r4 := R5.out.cell 4
          by_cases hlt : k < n4
          · have hlt' : (k : Int) < (n4 : Int) := by omega
            have k0 : (0 : Int) ≤ (k : Int) := by omega
            rcases (HC.out wr BW.out).2 with h00 | ⟨b, off, rfl, hbl, hc⟩
            · omega
            obtain ⟨x0, x1, x2⟩ := hc k hlt
            have hsz : (o4 k).tx.size ≤ 1048576 := HCB.out.2 k hlt
            obtain ⟨C, hC⟩ : ∃ C, C = o4 k := ⟨_, rfl⟩
            rw [← hC] at x0 x1 x2 hsz
            have HCK := hid hC
            clear hc hC
            obtain ⟨kd, tx, tm⟩ := C
            dsimp only at x0 x1 x2 hsz
            obtain ⟨W6, hW6⟩ : ∃ W, W = wr.alloc (.cells #[.int .i64 kd, .string tx, .int .i64 tm] 42) := ⟨_, rfl⟩
            have b6 : Below wr.heap.size wr W6 := by rw [hW6]; exact (Below.refl _ _).alloc (Nat.le_refl _) _
            have C6 : Hid (RowAt W6 wr.heap.size 42 #[.int .i64 kd, .string tx, .int .i64 tm]) := by rw [hW6]; exact RowAt.new _ _ _
            have R6 := hid (R5.out.below b6 R5.out.lt)
            have Q6 := hid (Q5.out.below b6 Q5.out.lt)
            have B6 : Hid (Below w4.heap.size w4 W6) := HB.out.trans (b6.mono HB.out.size)
            clear b6
            go_upto_region 7 with fail
            rw [← hW6]
            clear hW6 x0 x1 x2
            obtain ⟨X6, hX6⟩ : ∃ x, x = wr.heap.size := ⟨_, rfl⟩
            rw [← hX6] at C6 ⊢
            clear hX6
            have y0 := C6.out.cell 0
            have y1 := C6.out.cell 1
            have y2 := C6.out.cell 2
            have z2 := Q6.out.cell 2
            have z3 := Q6.out.cell 3
            have z4 := Q6.out.cell 4
            have NXT : Hid (cnH (o4 k) ⟨qwo, qwa, qwi, qfr, qtm⟩ → ∀ i, i < k + 1 → cnH (o4 i) ⟨qwo, qwa, qwi, qfr, qtm⟩) := fun q i hi => by
              by_cases e : i = k
              · subst e; exact q
              · exact AL.out i (by omega)
            have BAD : Hid (¬ cnH (o4 k) ⟨qwo, qwa, qwi, qfr, qtm⟩ → V = false) := fun q => NO.out (.inr (.inr (.inr ⟨k, hlt, q⟩)))
            rw [← HCK.out] at NXT BAD
            clear AL HC R5 Q5 r4
            have BF : Hid (∀ wx, Below w4.heap.size w4 wx → Below w.heap.size w wx) := fun wx hb => B4.out.trans (hb.mono B4.out.size)
            by_cases e1 : kd = 1
            · subst e1
              have KB := hid (sBegins qwi tx (by have := HQ.out.wi; dsimp only at this; omega) hsz W6)
              obtain ⟨bv, hbv⟩ : ∃ b, b = pb (bgP qwi tx) := ⟨_, rfl⟩
              rw [← hbv] at KB
              go_wp2_with fail
              refine KB.out.mono ?_
              rintro e w7 ⟨rfl, hw7⟩
              obtain rfl := hw7.symm
              clear hw7 KB
              cases bv with
              | true =>
                have N2 := hid (NXT.out (.inl ⟨rfl, pb_iff.1 hbv.symm⟩))
                clear hbv
                go_wp2
                go_roundw
                case rel => exact ⟨k + 1, by omega, by go_num, N2.out, B6.out⟩
                case measure => simp [intOf]; omega
              | false =>
                have E := hid (BAD.out (by rintro (⟨_, z⟩ | ⟨z, _⟩ | ⟨z, _⟩ | ⟨z, _⟩) <;> first | exact absurd z (pb_not.1 hbv.symm) | (dsimp only at z; omega)))
                clear hbv
                go_wp2
                go_ret
                exact ⟨by rw [E.out]; rfl, BF.out _ B6.out⟩
            have f1 : (kd == 1) = false := beq_eq_false_iff_ne.2 e1
            by_cases e2 : kd = 2
            · subst e2
              by_cases q : qtm < tm
              · have N2 := hid (NXT.out (.inr (.inl ⟨rfl, q⟩)))
                go_wp2
                go_roundw
                case rel => exact ⟨k + 1, by omega, by go_num, N2.out, B6.out⟩
                case measure => simp [intOf]; omega
              · have q' : decide (qtm < tm) = false := decide_eq_false q
                have E := hid (BAD.out (by rintro (⟨z, _⟩ | ⟨_, z⟩ | ⟨z, _⟩ | ⟨z, _⟩) <;> dsimp only at z <;> omega))
                go_wp2
                go_ret
                exact ⟨by rw [E.out]; rfl, BF.out _ B6.out⟩
            have f2 : (kd == 2) = false := beq_eq_false_iff_ne.2 e2
            by_cases e3 : kd = 3
            · subst e3
              by_cases q : tm < qtm
              · have N2 := hid (NXT.out (.inr (.inr (.inl ⟨rfl, q⟩))))
                go_wp2
                go_roundw
                case rel => exact ⟨k + 1, by omega, by go_num, N2.out, B6.out⟩
                case measure => simp [intOf]; omega
              · have q' : decide (tm < qtm) = false := decide_eq_false q
                have E := hid (BAD.out (by rintro (⟨z, _⟩ | ⟨z, _⟩ | ⟨_, z⟩ | ⟨z, _⟩) <;> dsimp only at z <;> omega))
                go_wp2
                go_ret
                exact ⟨by rw [E.out]; rfl, BF.out _ B6.out⟩
            have f3 : (kd == 3) = false := beq_eq_false_iff_ne.2 e3
            by_cases e4 : kd = 4
            · subst e4
              have KG := hid (sGlob tx qfr (by omega) (by have := HQ.out.fr; dsimp only at this; omega) W6)
              obtain ⟨bv, hbv⟩ : ∃ b, b = globV tx qfr := ⟨_, rfl⟩
              rw [← hbv] at KG
              go_wp2_with fail
              refine KG.out.mono ?_
              rintro e w7 ⟨rfl, hb⟩
              have B7 := hid (B6.out.trans (hb.mono B6.out.size))
              clear hb KG
              cases bv with
              | true =>
                have N2 := hid (NXT.out (.inr (.inr (.inr ⟨rfl, hbv.symm⟩))))
                clear hbv
                go_wp2
                go_roundw
                case rel => exact ⟨k + 1, by omega, by go_num, N2.out, B7.out⟩
                case measure => simp [intOf]; omega
              | false =>
                have E := hid (BAD.out (by rintro (⟨z, _⟩ | ⟨z, _⟩ | ⟨z, _⟩ | ⟨_, z⟩) <;> first | (dsimp only at z; omega) | (dsimp only at z; rw [← hbv] at z; cases z)))
                clear hbv
                go_wp2
                go_ret
                exact ⟨by rw [E.out]; rfl, BF.out _ B7.out⟩
            have f4 : (kd == 4) = false := beq_eq_false_iff_ne.2 e4
            have E := hid (BAD.out (by rintro (⟨z, _⟩ | ⟨z, _⟩ | ⟨z, _⟩ | ⟨z, _⟩) <;> dsimp only at z <;> omega))
            go_wp2
            go_ret
            exact ⟨by rw [E.out]; rfl, BF.out _ B6.out⟩
          · have hlt' : ¬ (k : Int) < (n4 : Int) := by omega
            have E := hid (YES.out (by first | trivial | rfl) (by first | trivial | rfl) (by first | trivial | rfl) (fun i hi => AL.out i (by omega)))
            go_wp2
            go_ret
            exact ⟨by rw [E.out]; rfl, BW.out⟩
end Go.Proofs.YtmjolkagkeonfaaDoor
