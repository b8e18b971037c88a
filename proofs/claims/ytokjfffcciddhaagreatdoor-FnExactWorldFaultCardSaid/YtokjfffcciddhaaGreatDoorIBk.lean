import Derived.Test.YtokjfffcciddhaaGreatDoorQK
import Derived.Deep.RegionHeld3
namespace Go.Proofs.YtokjfffcciddhaaGreatDoor
open Go.RowKit
/-! The program: BucketBytes, BucketFault (by genbk.py). -/
set_option maxRecDepth 20000 in
theorem iTimeB (t : Int) (w : World) :
    Calls Tryz.prog 92 #[.int .i64 t] w fun e w' => e = .returned (.bool (pb (tmB t))) ∧ w' = w := by
  by_cases h1 : 0 ≤ t
  · by_cases h2 : t ≤ 4102444800
    · have E : Hid (pb (tmB t) = true) := pb_t ⟨h1, h2⟩
      go_enter Tryz.func92, Tryz.ntmps92
      go_wp2
      go_ret
      exact ⟨by rw [E.out]; rfl, rfl⟩
    · have E : Hid (pb (tmB t) = false) := pb_f fun h => h2 h.2
      go_enter Tryz.func92, Tryz.ntmps92
      go_wp2
      go_ret
      exact ⟨by rw [E.out]; rfl, rfl⟩
  · have E : Hid (pb (tmB t) = false) := pb_f fun h => h1 h.1
    go_enter Tryz.func92, Tryz.ntmps92
    go_wp2
    go_ret
    exact ⟨by rw [E.out]; rfl, rfl⟩
set_option maxRecDepth 20000 in
theorem iKeyB (k : ByteArray) (hk : k.size ≤ 1048576) (w : World) :
    Calls Tryz.prog 93 #[.string k] w fun e w' => e = .returned (.bool (pb (kyB k))) ∧ w' = w := by
  by_cases h1 : 1 ≤ k.size
  · have dh1 : (1 : Int) ≤ (k.size : Int) := by omega
    by_cases h2 : k.size ≤ 200
    · have dh2 : (k.size : Int) ≤ 200 := by omega
      have E : Hid (pb (kyB k) = true) := pb_t ⟨h1, h2⟩
      go_enter Tryz.func93, Tryz.ntmps93
      go_wp2
      go_ret
      exact ⟨by rw [E.out]; rfl, rfl⟩
    · have dh2 : ¬ (k.size : Int) ≤ 200 := by omega
      have E : Hid (pb (kyB k) = false) := pb_f fun h => h2 h.2
      go_enter Tryz.func93, Tryz.ntmps93
      go_wp2
      go_ret
      exact ⟨by rw [E.out]; rfl, rfl⟩
  · have dh1 : ¬ (1 : Int) ≤ (k.size : Int) := by omega
    have E : Hid (pb (kyB k) = false) := pb_f fun h => h1 h.1
    go_enter Tryz.func93, Tryz.ntmps93
    go_wp2
    go_ret
    exact ⟨by rw [E.out]; rfl, rfl⟩
set_option maxRecDepth 20000 in
theorem iQuotaB (t : Int) (w : World) :
    Calls Tryz.prog 62 #[.int .i64 t] w fun e w' => e = .returned (.bool (pb (qtP t))) ∧ w' = w := by
  by_cases h1 : 0 ≤ t
  · by_cases h2 : t ≤ 400000
    · have E : Hid (pb (qtP t) = true) := pb_t ⟨h1, h2⟩
      go_enter Tryz.func62, Tryz.ntmps62
      go_wp2
      go_ret
      exact ⟨by rw [E.out]; rfl, rfl⟩
    · have E : Hid (pb (qtP t) = false) := pb_f fun h => h2 h.2
      go_enter Tryz.func62, Tryz.ntmps62
      go_wp2
      go_ret
      exact ⟨by rw [E.out]; rfl, rfl⟩
  · have E : Hid (pb (qtP t) = false) := pb_f fun h => h1 h.1
    go_enter Tryz.func62, Tryz.ntmps62
    go_wp2
    go_ret
    exact ⟨by rw [E.out]; rfl, rfl⟩
set_option maxRecDepth 20000 in
theorem iLongB (s : ByteArray) (w : World) : Calls Tryz.prog 94 #[.string s] w fun e w' => e = .returned (.bool (pb (lgP s))) ∧ w' = w := by
  by_cases h1 : s.size ≤ 100000
  · have d1 : ¬ (100000 : Int) < (s.size : Int) := by omega
    have E : Hid (pb (lgP s) = false) := pb_f (fun h => h h1)
    go_enter Tryz.func94, Tryz.ntmps94
    go_wp2
    go_ret
    exact ⟨by rw [E.out]; rfl, rfl⟩
  · have d1 : (100000 : Int) < (s.size : Int) := by omega
    have E : Hid (pb (lgP s) = true) := pb_t (p := lgP s) h1
    go_enter Tryz.func94, Tryz.ntmps94
    go_wp2
    go_ret
    exact ⟨by rw [E.out]; rfl, rfl⟩
set_option maxRecDepth 20000 in
theorem iWithinB (q b : Int) (w : World) : Calls Tryz.prog 65 #[.int .i64 q, .int .i64 b] w fun e w' => e = .returned (.bool (pb (wiP q b))) ∧ w' = w := by
  by_cases h1 : q = 0
  · subst h1
    have E : Hid (pb (wiP 0 b) = true) := pb_t (.inl rfl)
    go_enter Tryz.func65, Tryz.ntmps65
    go_wp2
    go_ret
    exact ⟨by rw [E.out]; rfl, rfl⟩
  · have d1 : (q == 0) = false := beq_eq_false_iff_ne.2 h1
    by_cases h2 : b ≤ q
    · have E : Hid (pb (wiP q b) = true) := pb_t (.inr h2)
      go_enter Tryz.func65, Tryz.ntmps65
      go_wp2
      go_ret
      exact ⟨by rw [E.out]; rfl, rfl⟩
    · have E : Hid (pb (wiP q b) = false) := pb_f fun h => h.elim h1 h2
      go_enter Tryz.func65, Tryz.ntmps65
      go_wp2
      go_ret
      exact ⟨by rw [E.out]; rfl, rfl⟩
set_option maxRecDepth 20000 in
set_option maxHeartbeats 1000000 in
theorem iRuleB (kd : Int) (px : ByteArray) (ag : Int) (hp : px.size ≤ 1048576) (w : World) :
    Calls Tryz.prog 79 #[.agg #[.int .i64 kd, .string px, .int .i64 ag]] w fun e w' => e = .returned (.bool (pb (rlP ⟨kd, px, ag⟩))) ∧ Below w.heap.size w w' := by
  obtain ⟨W0, hW0⟩ : ∃ W, W = w.alloc (.cells #[.int .i64 kd, .string px, .int .i64 ag] 110) := ⟨_, rfl⟩
  have A0 : RowAt W0 w.heap.size 110 #[.int .i64 kd, .string px, .int .i64 ag] := by rw [hW0]; exact RowAt.new _ _ _
  have B0 : Hid (Below w.heap.size w W0) := by rw [hW0]; exact balLr (Below.refl _ _) _
  have x0 := A0.cell 0
  have x1 := A0.cell 1
  have x2 := A0.cell 2
  have HW := hid hW0
  have K := fun w => hid (iTimeB ag w)
  clear A0 hW0
  by_cases h1 : 1 ≤ kd
  · by_cases h2 : kd ≤ 3
    · by_cases h3 : px.size ≤ 200
      · have dh3 : (px.size : Int) ≤ 200 := by omega
        by_cases h4 : tmB ag
        · rw [pb_t h4] at K
          have E : Hid (pb (rlP ⟨kd, px, ag⟩) = true) := pb_t ⟨h1, h2, h3, h4⟩
          go_enter Tryz.func79, Tryz.ntmps79
          go_upto_region 1 with fail
          rw [← HW.out]
          go_wp2_with fail
          refine (K _).out.mono ?_
          rintro e w1 ⟨rfl, rfl⟩
          go_wp2
          go_ret
          exact ⟨by rw [E.out]; rfl, B0.out⟩
        · rw [pb_f h4] at K
          have E : Hid (pb (rlP ⟨kd, px, ag⟩) = false) := pb_f fun h => h4 h.2.2.2
          go_enter Tryz.func79, Tryz.ntmps79
          go_upto_region 1 with fail
          rw [← HW.out]
          go_wp2_with fail
          refine (K _).out.mono ?_
          rintro e w1 ⟨rfl, rfl⟩
          go_wp2
          go_ret
          exact ⟨by rw [E.out]; rfl, B0.out⟩
      · have dh3 : ¬ (px.size : Int) ≤ 200 := by omega
        have E : Hid (pb (rlP ⟨kd, px, ag⟩) = false) := pb_f fun h => h3 h.2.2.1
        go_enter Tryz.func79, Tryz.ntmps79
        go_upto_region 1 with fail
        rw [← HW.out]
        go_wp2
        go_ret
        exact ⟨by rw [E.out]; rfl, B0.out⟩
    · have E : Hid (pb (rlP ⟨kd, px, ag⟩) = false) := pb_f fun h => h2 h.2.1
      go_enter Tryz.func79, Tryz.ntmps79
      go_upto_region 1 with fail
      rw [← HW.out]
      go_wp2
      go_ret
      exact ⟨by rw [E.out]; rfl, B0.out⟩
  · have E : Hid (pb (rlP ⟨kd, px, ag⟩) = false) := pb_f fun h => h1 h.1
    go_enter Tryz.func79, Tryz.ntmps79
    go_upto_region 1 with fail
    rw [← HW.out]
    go_wp2
    go_ret
    exact ⟨by rw [E.out]; rfl, B0.out⟩
set_option maxRecDepth 20000 in
set_option maxHeartbeats 2000000 in
theorem iRulesB (a : Option Addr) (n cap : Nat) (o : Nat → Lr) (hn : n ≤ 1048576) (hs : ∀ k, k < n → (o k).px.size ≤ 1048576) (w : World) (h : Lrs w a n cap o) :
    Calls Tryz.prog 63 #[.slice a n cap] w fun e w' => e = .returned (.bool (pb (rlsP n o))) ∧ Below w.heap.size w w' := by
  have HH := hid h
  have HS := hid hs
  clear h hs
  by_cases h20 : n ≤ 20
  · have d20 : ¬ (20 : Int) < (n : Int) := by omega
    go_enter Tryz.func63, Tryz.ntmps63
    go_wp2_with fail
    go_loopw [10] (fun q wr => ∃ k : Nat, k ≤ n ∧ q = .int .i64 (k : Int) ∧ (∀ i, i < k → rlP (o i)) ∧ Below w.heap.size w wr) (fun q _ => n - (intOf q).toNat)
    case atStart => exact ⟨0, Nat.zero_le _, rfl, fun i hi => absurd hi (Nat.not_lt_zero _), Below.refl _ _⟩
    case round =>
      obtain ⟨k, hk, rfl, hf, hB⟩ := hrel
      have HB := hid hB
      have HF := hid hf
      clear hB hf
      by_cases hlt : k < n
      · have hlt' : (k : Int) < (n : Int) := by omega
        have k0 : (0 : Int) ≤ (k : Int) := by omega
        rcases (HH.out.below HB.out).2 with h00 | ⟨b, off, rfl, hbl, hc⟩
        · omega
        obtain ⟨y0, y1, y2⟩ := hc k hlt
        have s1 := HS.out k hlt
        have FA : Hid (¬ rlP (o k) → pb (rlsP n o) = false) := fun hh => pb_f fun hi => hh (hi.1 k hlt)
        have TR : Hid (rlP (o k) → ∀ i, i < k + 1 → rlP (o i)) := fun hh => all_next HF.out hh
        generalize o k = T at y0 y1 y2 s1 FA TR
        obtain ⟨kd, px, ag⟩ := T
        dsimp only at y0 y1 y2 s1
        obtain ⟨W1, hW1⟩ : ∃ W, W = wr.alloc (.cells #[.int .i64 kd, .string px, .int .i64 ag] 110) := ⟨_, rfl⟩
        have z := (RowAt.new wr 110 #[.int .i64 kd, .string px, .int .i64 ag])
        rw [← hW1] at z
        have B1 : Hid (Below w.heap.size w W1) := by rw [hW1]; exact HB.out.alloc HB.out.size _
        have K := hid (iRuleB kd px ag s1 W1)
        have HW1 := hid hW1
        clear hc hW1
        go_upto_region 6 with ((refine wpList_store_row rfl 110 (.tmp 4) (.tmp 13) rfl wr.heap.size #[.int .i64 kd, .string px, .int .i64 ag] rfl rfl _ _ (RowAt.new wr _ _) (by kernel_rfl) rfl (oneLr _ _ _) ?_); rw [World.setRow_alloc_new])
        rw [← HW1.out]
        clear y0 y1 y2
        have z0 := z.cell 0
        have z1 := z.cell 1
        have z2 := z.cell 2
        clear z
        by_cases g1 : rlP ⟨kd, px, ag⟩
        · rw [pb_t g1] at K
          have N := hid (TR.out g1)
          clear FA TR
          go_wp2_with fail
          refine K.out.mono ?_
          rintro e w3 ⟨rfl, hb3⟩
          have B3 := hid (B1.out.trans (hb3.mono B1.out.size))
          clear hb3 K
          go_wp2
          go_roundw
          case rel => exact ⟨k + 1, by omega, by go_num, N.out, B3.out⟩
          case measure => simp [intOf]; omega
        · rw [pb_f g1] at K
          have N := hid (FA.out g1)
          clear FA TR
          go_wp2_with fail
          refine K.out.mono ?_
          rintro e w3 ⟨rfl, hb3⟩
          have B3 := hid (B1.out.trans (hb3.mono B1.out.size))
          clear hb3 K
          go_wp2
          go_ret
          exact ⟨by rw [N.out]; rfl, B3.out⟩
      · have hlt' : ¬ (k : Int) < (n : Int) := by omega
        have hke : k = n := by omega
        subst hke
        have N : Hid (pb (rlsP k o) = true) := pb_t ⟨HF.out, h20⟩
        go_wp2
        go_ret
        exact ⟨by rw [N.out]; rfl, HB.out⟩
  · have d20 : (20 : Int) < (n : Int) := by omega
    have N : Hid (pb (rlsP n o) = false) := pb_f fun h => h20 h.2
    go_enter Tryz.func63, Tryz.ntmps63
    go_wp2
    go_ret
    exact ⟨by rw [N.out]; rfl, Below.refl _ _⟩
set_option maxRecDepth 20000 in
set_option maxHeartbeats 2000000 in
theorem iVerB (ky : ByteArray) (id : Int) (mr : Bool) (dt : ByteArray) (tm un : Int) (ho : Bool) (s1 : ky.size ≤ 1048576) (s2 : dt.size ≤ 1048576) (w : World) :
    Calls Tryz.prog 80 #[.agg #[.string ky, .int .i64 id, .bool mr, .string dt, .int .i64 tm, .int .i64 un, .bool ho]] w fun e w' => e = .returned (.bool (pb (veP ⟨ky, id, mr, dt, tm, un, ho⟩))) ∧ Below w.heap.size w w' := by
  obtain ⟨W0, hW0⟩ : ∃ W, W = w.alloc (.cells #[.string ky, .int .i64 id, .bool mr, .string dt, .int .i64 tm, .int .i64 un, .bool ho] 79) := ⟨_, rfl⟩
  have A0 : RowAt W0 w.heap.size 79 #[.string ky, .int .i64 id, .bool mr, .string dt, .int .i64 tm, .int .i64 un, .bool ho] := by rw [hW0]; exact RowAt.new _ _ _
  have B0 : Hid (Below w.heap.size w W0) := by rw [hW0]; exact balLr (Below.refl _ _) _
  have x0 := A0.cell 0
  have x2 := A0.cell 2
  have x3 := A0.cell 3
  have x4 := A0.cell 4
  have x5 := A0.cell 5
  have x6 := A0.cell 6
  have HW := hid hW0
  have K1 := fun w => hid (iKeyB ky s1 w)
  have K2 := fun w => hid (iLongB dt w)
  have K3 := fun w => hid (iTimeB tm w)
  have K4 := fun w => hid (iTimeB un w)
  clear A0 hW0
  by_cases g1 : kyB ky
  · rw [pb_t g1] at K1
    by_cases g2 : dt.size ≤ 100000
    · rw [pb_f (lgP_no g2)] at K2
      by_cases g3 : tmB tm
      · rw [pb_t g3] at K3
        by_cases g4 : tmB un
        · rw [pb_t g4] at K4
          cases mr with
          | false =>
            have E : Hid (pb (veP ⟨ky, id, false, dt, tm, un, ho⟩) = true) := pb_t ⟨g1, g2, g3, g4, fun h => Bool.noConfusion h⟩
            go_enter Tryz.func80, Tryz.ntmps80
            go_upto_region 1 with fail
            rw [← HW.out]
            go_wp2_with fail
            refine (K1 _).out.mono ?_
            rintro e w1 ⟨rfl, rfl⟩
            go_wp2_with fail
            refine (K2 _).out.mono ?_
            rintro e w1 ⟨rfl, rfl⟩
            go_wp2_with fail
            refine (K3 _).out.mono ?_
            rintro e w1 ⟨rfl, rfl⟩
            go_wp2_with fail
            refine (K4 _).out.mono ?_
            rintro e w1 ⟨rfl, rfl⟩
            go_wp2
            go_ret
            exact ⟨by rw [E.out]; rfl, B0.out⟩
          | true =>
            by_cases g7 : dt = ⟨#[]⟩
            · subst g7
              by_cases g8 : un = 0
              · subst g8
                cases ho with
                | false =>
                  have E : Hid (pb (veP ⟨ky, id, true, ⟨#[]⟩, tm, 0, false⟩) = true) := pb_t ⟨g1, g2, g3, g4, fun _ => ⟨rfl, rfl, rfl⟩⟩
                  go_enter Tryz.func80, Tryz.ntmps80
                  go_upto_region 1 with fail
                  rw [← HW.out]
                  go_wp2_with fail
                  refine (K1 _).out.mono ?_
                  rintro e w1 ⟨rfl, rfl⟩
                  go_wp2_with fail
                  refine (K2 _).out.mono ?_
                  rintro e w1 ⟨rfl, rfl⟩
                  go_wp2_with fail
                  refine (K3 _).out.mono ?_
                  rintro e w1 ⟨rfl, rfl⟩
                  go_wp2_with fail
                  refine (K4 _).out.mono ?_
                  rintro e w1 ⟨rfl, rfl⟩
                  go_wp2
                  go_ret
                  exact ⟨by rw [E.out]; rfl, B0.out⟩
                | true =>
                  have E : Hid (pb (veP ⟨ky, id, true, ⟨#[]⟩, tm, 0, true⟩) = false) := pb_f fun h => by have := (h.2.2.2.2 rfl).2.2; cases this
                  go_enter Tryz.func80, Tryz.ntmps80
                  go_upto_region 1 with fail
                  rw [← HW.out]
                  go_wp2_with fail
                  refine (K1 _).out.mono ?_
                  rintro e w1 ⟨rfl, rfl⟩
                  go_wp2_with fail
                  refine (K2 _).out.mono ?_
                  rintro e w1 ⟨rfl, rfl⟩
                  go_wp2_with fail
                  refine (K3 _).out.mono ?_
                  rintro e w1 ⟨rfl, rfl⟩
                  go_wp2_with fail
                  refine (K4 _).out.mono ?_
                  rintro e w1 ⟨rfl, rfl⟩
                  go_wp2
                  go_ret
                  exact ⟨by rw [E.out]; rfl, B0.out⟩
              · have d8 : (un == 0) = false := beq_eq_false_iff_ne.2 g8
                have E : Hid (pb (veP ⟨ky, id, true, ⟨#[]⟩, tm, un, ho⟩) = false) := pb_f fun h => g8 (h.2.2.2.2 rfl).2.1
                go_enter Tryz.func80, Tryz.ntmps80
                go_upto_region 1 with fail
                rw [← HW.out]
                go_wp2_with fail
                refine (K1 _).out.mono ?_
                rintro e w1 ⟨rfl, rfl⟩
                go_wp2_with fail
                refine (K2 _).out.mono ?_
                rintro e w1 ⟨rfl, rfl⟩
                go_wp2_with fail
                refine (K3 _).out.mono ?_
                rintro e w1 ⟨rfl, rfl⟩
                go_wp2_with fail
                refine (K4 _).out.mono ?_
                rintro e w1 ⟨rfl, rfl⟩
                go_wp2
                go_ret
                exact ⟨by rw [E.out]; rfl, B0.out⟩
            · have d7 : dt.toList.isEmpty = false := txt_neB g7
              have E : Hid (pb (veP ⟨ky, id, true, dt, tm, un, ho⟩) = false) := pb_f fun h => g7 (h.2.2.2.2 rfl).1
              go_enter Tryz.func80, Tryz.ntmps80
              go_upto_region 1 with fail
              rw [← HW.out]
              go_wp2_with fail
              refine (K1 _).out.mono ?_
              rintro e w1 ⟨rfl, rfl⟩
              go_wp2_with fail
              refine (K2 _).out.mono ?_
              rintro e w1 ⟨rfl, rfl⟩
              go_wp2_with fail
              refine (K3 _).out.mono ?_
              rintro e w1 ⟨rfl, rfl⟩
              go_wp2_with fail
              refine (K4 _).out.mono ?_
              rintro e w1 ⟨rfl, rfl⟩
              go_wp2
              go_ret
              exact ⟨by rw [E.out]; rfl, B0.out⟩
        · rw [pb_f g4] at K4
          have E : Hid (pb (veP ⟨ky, id, mr, dt, tm, un, ho⟩) = false) := pb_f fun h => g4 h.2.2.2.1
          go_enter Tryz.func80, Tryz.ntmps80
          go_upto_region 1 with fail
          rw [← HW.out]
          go_wp2_with fail
          refine (K1 _).out.mono ?_
          rintro e w1 ⟨rfl, rfl⟩
          go_wp2_with fail
          refine (K2 _).out.mono ?_
          rintro e w1 ⟨rfl, rfl⟩
          go_wp2_with fail
          refine (K3 _).out.mono ?_
          rintro e w1 ⟨rfl, rfl⟩
          go_wp2_with fail
          refine (K4 _).out.mono ?_
          rintro e w1 ⟨rfl, rfl⟩
          go_wp2
          go_ret
          exact ⟨by rw [E.out]; rfl, B0.out⟩
      · rw [pb_f g3] at K3
        have E : Hid (pb (veP ⟨ky, id, mr, dt, tm, un, ho⟩) = false) := pb_f fun h => g3 h.2.2.1
        go_enter Tryz.func80, Tryz.ntmps80
        go_upto_region 1 with fail
        rw [← HW.out]
        go_wp2_with fail
        refine (K1 _).out.mono ?_
        rintro e w1 ⟨rfl, rfl⟩
        go_wp2_with fail
        refine (K2 _).out.mono ?_
        rintro e w1 ⟨rfl, rfl⟩
        go_wp2_with fail
        refine (K3 _).out.mono ?_
        rintro e w1 ⟨rfl, rfl⟩
        go_wp2
        go_ret
        exact ⟨by rw [E.out]; rfl, B0.out⟩
    · rw [pb_t (p := lgP dt) g2] at K2
      have E : Hid (pb (veP ⟨ky, id, mr, dt, tm, un, ho⟩) = false) := pb_f fun h => g2 h.2.1
      go_enter Tryz.func80, Tryz.ntmps80
      go_upto_region 1 with fail
      rw [← HW.out]
      go_wp2_with fail
      refine (K1 _).out.mono ?_
      rintro e w1 ⟨rfl, rfl⟩
      go_wp2_with fail
      refine (K2 _).out.mono ?_
      rintro e w1 ⟨rfl, rfl⟩
      go_wp2
      go_ret
      exact ⟨by rw [E.out]; rfl, B0.out⟩
  · rw [pb_f g1] at K1
    have E : Hid (pb (veP ⟨ky, id, mr, dt, tm, un, ho⟩) = false) := pb_f fun h => g1 h.1
    go_enter Tryz.func80, Tryz.ntmps80
    go_upto_region 1 with fail
    rw [← HW.out]
    go_wp2_with fail
    refine (K1 _).out.mono ?_
    rintro e w1 ⟨rfl, rfl⟩
    go_wp2
    go_ret
    exact ⟨by rw [E.out]; rfl, B0.out⟩
set_option maxRecDepth 20000 in
set_option maxHeartbeats 4000000 in
theorem iVersB (a : Option Addr) (m cap : Nat) (o : Nat → Ve) (ni : Int) (hm : m ≤ 1048576) (hs : ∀ k, k < m → (o k).ky.size ≤ 1048576 ∧ (o k).dt.size ≤ 1048576) (w : World) (h : Ves w a m cap o) :
    Calls Tryz.prog 64 #[.slice a m cap, .int .i64 ni] w fun e w' => e = .returned (.bool (pb (vsP ni m o))) ∧ Below w.heap.size w w' := by
  have HH := hid h
  have HS := hid hs
  clear h hs
  by_cases h20 : m ≤ 300
  · have d20 : ¬ (300 : Int) < (m : Int) := by omega
    go_enter Tryz.func64, Tryz.ntmps64
    go_wp2_with fail
    go_loopw [13, 5] (fun q v wr => ∃ k : Nat, k ≤ m ∧ q = .int .i64 (k : Int) ∧ v = .int .i64 (lastI o k) ∧ (∀ i, i < k → okV ni o i) ∧ Below w.heap.size w wr) (fun q _ _ => m - (intOf q).toNat)
    case atStart => exact ⟨0, Nat.zero_le _, rfl, rfl, fun i hi => absurd hi (Nat.not_lt_zero _), Below.refl _ _⟩
    case round =>
      obtain ⟨k, hk, rfl, rfl, hf, hB⟩ := hrel
      have HB := hid hB
      have HF := hid hf
      clear hB hf
      by_cases hlt : k < m
      · have hlt' : (k : Int) < (m : Int) := by omega
        have k0 : (0 : Int) ≤ (k : Int) := by omega
        rcases (HH.out.below HB.out).2 with h00 | ⟨b, off, rfl, hbl, hc⟩
        · omega
        obtain ⟨y0, y1, y2, y3, y4, y5, y6⟩ := hc k hlt
        obtain ⟨s1, s2⟩ := HS.out k hlt
        have FA : Hid (¬ okV ni o k → pb (vsP ni m o) = false) := fun hh => pb_f fun hi => hh (hi.2 k hlt)
        have TR : Hid (okV ni o k → ∀ i, i < k + 1 → okV ni o i) := fun hh => all_next HF.out hh
        have LS : Hid (lastI o (k + 1) = (o k).id) := rfl
        have OK : okV ni o k ↔ veP (o k) ∧ lastI o k < (o k).id ∧ (o k).id < ni := Iff.rfl
        rw [OK] at FA TR
        generalize lastI o k = L at FA TR ⊢
        generalize o k = T at y0 y1 y2 y3 y4 y5 y6 s1 s2 FA TR LS
        obtain ⟨ky, id, mr, dt, tm, un, ho⟩ := T
        dsimp only at y0 y1 y2 y3 y4 y5 y6 s1 s2 FA TR LS
        obtain ⟨W1, hW1⟩ : ∃ W, W = wr.alloc (.cells #[.string ky, .int .i64 id, .bool mr, .string dt, .int .i64 tm, .int .i64 un, .bool ho] 79) := ⟨_, rfl⟩
        have z : Hid (RowAt W1 wr.heap.size 79 #[.string ky, .int .i64 id, .bool mr, .string dt, .int .i64 tm, .int .i64 un, .bool ho]) := by rw [hW1]; exact RowAt.new _ _ _
        have B1 : Hid (Below w.heap.size w W1) := by rw [hW1]; exact HB.out.alloc HB.out.size _
        have K := hid (iVerB ky id mr dt tm un ho s1 s2 W1)
        have HW1 := hid hW1
        clear hc hW1 OK
        go_upto_region 7 with ((refine wpList_store_row rfl 79 (.tmp 7) (.tmp 16) rfl wr.heap.size #[.string ky, .int .i64 id, .bool mr, .string dt, .int .i64 tm, .int .i64 un, .bool ho] rfl rfl _ _ (RowAt.new wr _ _) (by kernel_rfl) rfl (oneVe _ _ _ _ _ _ _) ?_); rw [World.setRow_alloc_new])
        rw [← HW1.out]
        clear y0 y1 y2 y3 y4 y5 y6
        have z0 := z.out.cell 0
        have z1 := z.out.cell 1
        have z2 := z.out.cell 2
        have z3 := z.out.cell 3
        have z4 := z.out.cell 4
        have z5 := z.out.cell 5
        have z6 := z.out.cell 6
        by_cases g1 : veP ⟨ky, id, mr, dt, tm, un, ho⟩
        · rw [pb_t g1] at K
          by_cases g2 : L < id
          · have d2 : ¬ id ≤ L := by omega
            by_cases g3 : id < ni
            · have d3 : ¬ ni ≤ id := by omega
              have N := hid (TR.out ⟨g1, g2, g3⟩)
              clear FA TR
              go_wp2_with fail
              refine K.out.mono ?_
              rintro e w3 ⟨rfl, hb3⟩
              have B3 := hid (B1.out.trans (hb3.mono B1.out.size))
              have u1 := (RowAt.nxB hb3 z.out).cell 1
              clear hb3 K z0 z1 z2 z3 z4 z5 z6
              go_wp2
              go_roundw
              case rel => exact ⟨k + 1, by omega, by go_num, by rw [LS.out], N.out, B3.out⟩
              case measure => simp [intOf]; omega
            · have d3 : ni ≤ id := by omega
              have N := hid (FA.out fun h => g3 h.2.2)
              clear FA TR
              go_wp2_with fail
              refine K.out.mono ?_
              rintro e w3 ⟨rfl, hb3⟩
              have B3 := hid (B1.out.trans (hb3.mono B1.out.size))
              have u1 := (RowAt.nxB hb3 z.out).cell 1
              clear hb3 K z0 z1 z2 z3 z4 z5 z6
              go_wp2
              go_ret
              exact ⟨by rw [N.out]; rfl, B3.out⟩
          · have d2 : id ≤ L := by omega
            have N := hid (FA.out fun h => g2 h.2.1)
            clear FA TR
            go_wp2_with fail
            refine K.out.mono ?_
            rintro e w3 ⟨rfl, hb3⟩
            have B3 := hid (B1.out.trans (hb3.mono B1.out.size))
            have u1 := (RowAt.nxB hb3 z.out).cell 1
            clear hb3 K z0 z1 z2 z3 z4 z5 z6
            go_wp2
            go_ret
            exact ⟨by rw [N.out]; rfl, B3.out⟩
        · rw [pb_f g1] at K
          have N := hid (FA.out fun h => g1 h.1)
          clear FA TR
          go_wp2_with fail
          refine K.out.mono ?_
          rintro e w3 ⟨rfl, hb3⟩
          have B3 := hid (B1.out.trans (hb3.mono B1.out.size))
          have u1 := (RowAt.nxB hb3 z.out).cell 1
          clear hb3 K z0 z1 z2 z3 z4 z5 z6
          go_wp2
          go_ret
          exact ⟨by rw [N.out]; rfl, B3.out⟩
      · have hlt' : ¬ (k : Int) < (m : Int) := by omega
        have hke : k = m := by omega
        subst hke
        have N : Hid (pb (vsP ni k o) = true) := pb_t ⟨h20, HF.out⟩
        go_wp2
        go_ret
        exact ⟨by rw [N.out]; rfl, HB.out⟩
  · have d20 : (300 : Int) < (m : Int) := by omega
    have N : Hid (pb (vsP ni m o) = false) := pb_f fun h => h20 h.1
    go_enter Tryz.func64, Tryz.ntmps64
    go_wp2
    go_ret
    exact ⟨by rw [N.out]; rfl, Below.refl _ _⟩
set_option maxRecDepth 20000 in
set_option maxHeartbeats 2000000 in
theorem iBytesOf (a : Option Addr) (m cap : Nat) (o : Nat → Ve) (hm : m ≤ 1048576) (hs : byN o m ≤ 1073741824) (w : World) (h : Ves w a m cap o) :
    Calls Tryz.prog 81 #[.slice a m cap] w fun e w' => e = .returned (.int .i64 (byN o m : Nat)) ∧ Below w.heap.size w w' := by
  have HH := hid h
  have HS := hid hs
  clear h hs
  go_enter Tryz.func81, Tryz.ntmps81
  go_wp2_with fail
  go_loopw [8, 3] (fun q v wr => ∃ k : Nat, k ≤ m ∧ q = .int .i64 (k : Int) ∧ v = .int .i64 (byN o k : Nat) ∧ Below w.heap.size w wr) (fun q _ _ => m - (intOf q).toNat)
  case atStart => exact ⟨0, Nat.zero_le _, rfl, rfl, Below.refl _ _⟩
  case round =>
    obtain ⟨k, hk, rfl, rfl, hB⟩ := hrel
    have HB := hid hB
    clear hB
    by_cases hlt : k < m
    · have hlt' : (k : Int) < (m : Int) := by omega
      have k0 : (0 : Int) ≤ (k : Int) := by omega
      rcases (HH.out.below HB.out).2 with h00 | ⟨b, off, rfl, hbl, hc⟩
      · omega
      obtain ⟨y0, y1, y2, y3, y4, y5, y6⟩ := hc k hlt
      have hkm := byN_mono o (show k + 1 ≤ m by omega)
      have hN : byN o k + (o k).dt.size ≤ 1073741824 := Nat.le_trans hkm HS.out
      have ST : Hid (byN o (k + 1) = byN o k + (o k).dt.size) := rfl
      generalize o k = T at y0 y1 y2 y3 y4 y5 y6 hN ST
      obtain ⟨ky, id, mr, dt, tm, un, ho⟩ := T
      dsimp only at y0 y1 y2 y3 y4 y5 y6 hN ST
      generalize byN o k = B at hN ST ⊢
      have hw : IntKind.i64.wrap ((B : Int) + (dt.size : Int)) = ((B + dt.size : Nat) : Int) := by simp [IntKind.wrap, IntKind.bits, IntKind.signed]; omega
      obtain ⟨W1, hW1⟩ : ∃ W, W = wr.alloc (.cells #[.string ky, .int .i64 id, .bool mr, .string dt, .int .i64 tm, .int .i64 un, .bool ho] 79) := ⟨_, rfl⟩
      have z : Hid (RowAt W1 wr.heap.size 79 #[.string ky, .int .i64 id, .bool mr, .string dt, .int .i64 tm, .int .i64 un, .bool ho]) := by rw [hW1]; exact RowAt.new _ _ _
      have B1 : Hid (Below w.heap.size w W1) := by rw [hW1]; exact HB.out.alloc HB.out.size _
      have HW1 := hid hW1
      clear hc hW1 hkm
      go_upto_region 5 with ((refine wpList_store_row rfl 79 (.tmp 5) (.tmp 11) rfl wr.heap.size #[.string ky, .int .i64 id, .bool mr, .string dt, .int .i64 tm, .int .i64 un, .bool ho] rfl rfl _ _ (RowAt.new wr _ _) (by kernel_rfl) rfl (oneVe _ _ _ _ _ _ _) ?_); rw [World.setRow_alloc_new])
      rw [← HW1.out]
      clear y0 y1 y2 y3 y4 y5 y6
      have z3 := z.out.cell 3
      go_wp2
      go_roundw
      case rel => exact ⟨k + 1, by omega, by go_num, by rw [ST.out]; rfl, B1.out⟩
      case measure => simp [intOf]; omega
    · have hlt' : ¬ (k : Int) < (m : Int) := by omega
      have hke : k = m := by omega
      subst hke
      go_wp2
      go_ret
      exact ⟨rfl, HB.out⟩
set_option maxRecDepth 20000 in
theorem iBytes (ni : Int) (kp : Bool) (q : Int) (a0 : Option Addr) (n0 c0 : Nat) (a : Option Addr) (m cap : Nat) (o : Nat → Ve) (hm : m ≤ 1048576) (hs : byN o m ≤ 1073741824) (w : World) (h : Ves w a m cap o) :
    Calls Tryz.prog 66 #[.agg #[.int .i64 ni, .bool kp, .int .i64 q, .slice a0 n0 c0, .slice a m cap]] w fun e w' => e = .returned (.int .i64 (byN o m : Nat)) ∧ Below w.heap.size w w' := by
  obtain ⟨W0, hW0⟩ : ∃ W, W = w.alloc (.cells #[.int .i64 ni, .bool kp, .int .i64 q, .slice a0 n0 c0, .slice a m cap] 44) := ⟨_, rfl⟩
  have A0 : RowAt W0 w.heap.size 44 #[.int .i64 ni, .bool kp, .int .i64 q, .slice a0 n0 c0, .slice a m cap] := by rw [hW0]; exact RowAt.new _ _ _
  have B0 : Hid (Below w.heap.size w W0) := by rw [hW0]; exact balLr (Below.refl _ _) _
  have x4 := A0.cell 4
  have K := hid (iBytesOf a m cap o hm hs W0 (h.below B0.out))
  have HW := hid hW0
  clear A0 hW0 h hs
  go_enter Tryz.func66, Tryz.ntmps66
  go_upto_region 1 with fail
  rw [← HW.out]
  go_wp2_with fail
  refine K.out.mono ?_
  rintro e w1 ⟨rfl, hb1⟩
  have B1 := hid (B0.out.trans (hb1.mono B0.out.size))
  clear hb1
  go_wp2
  go_ret
  exact ⟨rfl, B1.out⟩
end Go.Proofs.YtokjfffcciddhaaGreatDoor
