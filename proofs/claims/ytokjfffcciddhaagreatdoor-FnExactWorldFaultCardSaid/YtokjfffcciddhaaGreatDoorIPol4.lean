import Derived.Test.YtokjfffcciddhaaGreatDoorIPol3
namespace Go.Proofs.YtokjfffcciddhaaGreatDoor
open Go.RowKit
/-! The program's statementFits. -/
theorem bdN {n : Nat} {w w' : World} (h : Below n w w') (k : Nat) : Below n w (w'.drewN k) := ⟨h.1, h.2, h.3, h.4, h.5⟩
set_option maxRecDepth 20000 in
set_option maxHeartbeats 2000000 in
theorem iCF0 (kd : Int) (tx : ByteArray) (tm : Int) (h1 : ¬ kd = 1) (h2 : ¬ kd = 2) (h3 : ¬ kd = 3) (h4 : ¬ kd = 4) (w : World) :
    Calls Tryz.prog 103 #[.agg #[.int .i64 kd, .string tx, .int .i64 tm]] w fun e w' => e = .returned (.bool (pb (cnP ⟨kd, tx, tm⟩))) ∧ Below w.heap.size w w' := by
  have N : Hid (pb (cnP ⟨kd, tx, tm⟩) = false) := pb_f (cnP_o h1 h2 h3 h4)
  have K := hid (iCond0 kd tx tm h1 h2 h3 h4)
  clear h1 h2 h3 h4
  go_enter Tryz.func103, Tryz.ntmps103
  go_wp2_with fail
  refine (K.out _).mono ?_
  rintro e w2 ⟨rfl, rfl⟩
  go_wp2_with fail
  go_quiet (fail)
  go_wp2
  go_ret
  exact ⟨by rw [N.out]; rfl, bdN (balCn (balCn (Below.refl _ _) _) _) _⟩
theorem iCF (c : Cn) (ht : c.tx.size ≤ 1048576) (w : World) :
    Calls Tryz.prog 103 #[.agg #[.int .i64 c.kd, .string c.tx, .int .i64 c.tm]] w fun e w' => e = .returned (.bool (pb (cnP c))) ∧ Below w.heap.size w w' := by
  obtain ⟨kd, tx, tm⟩ := c
  dsimp only at ht ⊢
  by_cases h1 : kd = 1
  · subst h1; exact iCF1 tx tm ht w
  by_cases h2 : kd = 2
  · subst h2; exact iCF2 tx tm ht w
  by_cases h3 : kd = 3
  · subst h3; exact iCF3 tx tm ht w
  by_cases h4 : kd = 4
  · subst h4; exact iCF4 tx tm ht w
  exact iCF0 kd tx tm h1 h2 h3 h4 w
set_option maxRecDepth 20000 in
set_option maxHeartbeats 4000000 in
theorem iStF (s : St) (hs : StB s 1048576) (w : World) (h : StIn w s) :
    Calls Tryz.prog 89 #[.agg #[.int .i64 s.ef, .slice s.wo.ad s.wo.n s.wo.cap, .slice s.wa.ad s.wa.n s.wa.cap, .slice s.wi.ad s.wi.n s.wi.cap, .slice s.cs.ad s.cs.n s.cs.cap]] w fun e w' => e = .returned (.bool (pb (stP s))) ∧ Below w.heap.size w w' := by
  obtain ⟨f, ⟨a1, n1, c1, t1⟩, ⟨a2, n2, c2, t2⟩, ⟨a3, n3, c3, t3⟩, ⟨a4, n4, c4, o4⟩⟩ := s
  dsimp only
  obtain ⟨W0, hW0⟩ : ∃ W, W = w.alloc (.cells #[.int .i64 f, .slice a1 n1 c1, .slice a2 n2 c2, .slice a3 n3 c3, .slice a4 n4 c4] 85) := ⟨_, rfl⟩
  have A0 : RowAt W0 w.heap.size 85 #[.int .i64 f, .slice a1 n1 c1, .slice a2 n2 c2, .slice a3 n3 c3, .slice a4 n4 c4] := by rw [hW0]; exact RowAt.new _ _ _
  have B0 : Hid (Below w.heap.size w W0) := by rw [hW0]; exact balCn (Below.refl _ _) _
  have K1 := hid (iList a1 n1 c1 t1 hs.wo.1 hs.wo.2 W0 (h.wo.below B0.out))
  have K2 := hid (iList a2 n2 c2 t2 hs.wa.1 hs.wa.2 W0 (h.wa.below B0.out))
  have K3 := hid (iList a3 n3 c3 t3 hs.wi.1 hs.wi.2 W0 (h.wi.below B0.out))
  have HC := hid (h.cs.below B0.out)
  have HT := hid hs.cs.2
  have hn4 : n4 ≤ 1048576 := hs.cs.1
  dsimp only at HC HT
  have x0 := A0.cell 0
  have x1 := A0.cell 1
  have x2 := A0.cell 2
  have x3 := A0.cell 3
  have x4 := A0.cell 4
  clear h hs A0
  by_cases f1 : f = 1
  · subst f1
    go_enter Tryz.func89, Tryz.ntmps89
    go_wp2_with fail
    rw [← hW0]
    clear hW0
    by_cases p1 : lsP n1 t1
    · rw [pb_t p1] at K1
      refine K1.out.mono ?_
      rintro e w2 ⟨rfl, hh2⟩
      obtain rfl := hh2.symm
      go_wp2_with fail
      by_cases p2 : lsP n2 t2
      · rw [pb_t p2] at K2
        refine K2.out.mono ?_
        rintro e w2 ⟨rfl, hh2⟩
        obtain rfl := hh2.symm
        go_wp2_with fail
        by_cases p3 : lsP n3 t3
        · rw [pb_t p3] at K3
          refine K3.out.mono ?_
          rintro e w2 ⟨rfl, hh2⟩
          obtain rfl := hh2.symm
          obtain ⟨TV, hTV⟩ : ∃ v, v = pb (stP ⟨1, ⟨a1, n1, c1, t1⟩, ⟨a2, n2, c2, t2⟩, ⟨a3, n3, c3, t3⟩, ⟨a4, n4, c4, o4⟩⟩) := ⟨_, rfl⟩
          have PF : Hid (isP n4 o4 → TV = true) := fun h4 => by rw [hTV]; exact pb_t ⟨.inl rfl, p1, p2, p3, h4⟩
          have NF : Hid (¬ isP n4 o4 → TV = false) := fun h4 => by rw [hTV]; exact pb_f fun hh => h4 hh.2.2.2.2
          have HTV := hid hTV
          clear hTV
          clear p1 p2 p3 K1 K2 K3
          go_wp2_with fail
          go_loopw [32] (fun v wr => ∃ k : Nat, k ≤ n4 ∧ v = .int .i64 (k : Int) ∧ (∀ i, i < k → cnP (o4 i)) ∧ Below w.heap.size w wr ∧ Below W0.heap.size W0 wr) (fun v _ => n4 - (intOf v).toNat)
          case atStart => exact ⟨0, Nat.zero_le _, rfl, fun i hi => absurd hi (Nat.not_lt_zero _), B0.out, Below.refl _ _⟩
          case round =>
            obtain ⟨k, hk, rfl, hr, hB, hB'⟩ := hrel
            have HR := hid hr
            have HB := hid hB
            have HB' := hid hB'
            clear hr hB hB'
            by_cases hlt : k < n4
            · have d3 : (k : Int) < (n4 : Int) := by omega
              have k0 : (0 : Int) ≤ (k : Int) := by omega
              rcases (HC.out.below HB'.out).2 with h00 | ⟨b, off, rfl, hbl, hc⟩
              · omega
              obtain ⟨y0, y1, y2⟩ := hc k hlt
              have st := HT.out k hlt
              have FA : Hid (¬ cnP (o4 k) → TV = false) := fun hh => NF.out fun hi => hh (hi k hlt)
              have TR : Hid (cnP (o4 k) → ∀ i, i < k + 1 → cnP (o4 i)) := fun hh i hi => by
                by_cases e : i = k
                · subst e; exact hh
                · exact HR.out i (by omega)
              have KC := fun w => hid (iCF (o4 k) st w)
              generalize o4 k = C at y0 y1 y2 st FA TR KC
              obtain ⟨kd, tx, tm⟩ := C
              dsimp only at y0 y1 y2 st KC
              obtain ⟨W2, hW2⟩ : ∃ W, W = wr.alloc (.cells #[.int .i64 kd, .string tx, .int .i64 tm] 112) := ⟨_, rfl⟩
              have B2 : Hid (Below w.heap.size w W2) := by rw [hW2]; exact HB.out.alloc HB.out.size _
              have B2' : Hid (Below W0.heap.size W0 W2) := by rw [hW2]; exact HB'.out.alloc HB'.out.size _
              clear hc
              by_cases q : cnP ⟨kd, tx, tm⟩
              · have N := hid (TR.out q)
                have hp := pb_t q
                simp only [hp] at KC
                clear q hp FA TR
                go_wp2_with fail
                rw [← hW2]
                clear hW2
                refine (KC _).out.mono ?_
                rintro e w3 ⟨rfl, hb3⟩
                have B3 := hid (B2.out.trans (hb3.mono B2.out.size))
                have B3' := hid (B2'.out.trans (hb3.mono B2'.out.size))
                clear hb3 y0 y1 y2
                go_wp2
                go_roundw
                case rel => exact ⟨k + 1, by omega, by go_num, N.out, B3.out, B3'.out⟩
                case measure => simp [intOf]; omega
              · have N := hid (FA.out q)
                have hp := pb_f q
                simp only [hp] at KC
                clear q hp FA TR
                go_wp2_with fail
                rw [← hW2]
                clear hW2
                refine (KC _).out.mono ?_
                rintro e w3 ⟨rfl, hb3⟩
                have B3 := hid (B2.out.trans (hb3.mono B2.out.size))
                clear hb3 y0 y1 y2
                go_wp2
                go_ret
                exact ⟨by rw [← HTV.out, N.out]; rfl, B3.out⟩
            · have d3 : ¬ (k : Int) < (n4 : Int) := by omega
              have N := hid (PF.out fun i hi => HR.out i (by omega))
              go_wp2
              go_ret
              exact ⟨by rw [← HTV.out, N.out]; rfl, HB.out⟩
        · rw [pb_f p3] at K3
          have N : Hid (pb (stP ⟨1, ⟨a1, n1, c1, t1⟩, ⟨a2, n2, c2, t2⟩, ⟨a3, n3, c3, t3⟩, ⟨a4, n4, c4, o4⟩⟩) = false) := pb_f fun hh => p3 hh.2.2.2.1
          refine K3.out.mono ?_
          rintro e w2 ⟨rfl, hh2⟩
          obtain rfl := hh2.symm
          go_wp2
          go_ret
          exact ⟨by rw [N.out]; rfl, B0.out⟩
      · rw [pb_f p2] at K2
        have N : Hid (pb (stP ⟨1, ⟨a1, n1, c1, t1⟩, ⟨a2, n2, c2, t2⟩, ⟨a3, n3, c3, t3⟩, ⟨a4, n4, c4, o4⟩⟩) = false) := pb_f fun hh => p2 hh.2.2.1
        refine K2.out.mono ?_
        rintro e w2 ⟨rfl, hh2⟩
        obtain rfl := hh2.symm
        go_wp2
        go_ret
        exact ⟨by rw [N.out]; rfl, B0.out⟩
    · rw [pb_f p1] at K1
      have N : Hid (pb (stP ⟨1, ⟨a1, n1, c1, t1⟩, ⟨a2, n2, c2, t2⟩, ⟨a3, n3, c3, t3⟩, ⟨a4, n4, c4, o4⟩⟩) = false) := pb_f fun hh => p1 hh.2.1
      refine K1.out.mono ?_
      rintro e w2 ⟨rfl, hh2⟩
      obtain rfl := hh2.symm
      go_wp2
      go_ret
      exact ⟨by rw [N.out]; rfl, B0.out⟩
  by_cases f2 : f = 2
  · subst f2
    go_enter Tryz.func89, Tryz.ntmps89
    go_wp2_with fail
    rw [← hW0]
    clear hW0
    by_cases p1 : lsP n1 t1
    · rw [pb_t p1] at K1
      refine K1.out.mono ?_
      rintro e w2 ⟨rfl, hh2⟩
      obtain rfl := hh2.symm
      go_wp2_with fail
      by_cases p2 : lsP n2 t2
      · rw [pb_t p2] at K2
        refine K2.out.mono ?_
        rintro e w2 ⟨rfl, hh2⟩
        obtain rfl := hh2.symm
        go_wp2_with fail
        by_cases p3 : lsP n3 t3
        · rw [pb_t p3] at K3
          refine K3.out.mono ?_
          rintro e w2 ⟨rfl, hh2⟩
          obtain rfl := hh2.symm
          obtain ⟨TV, hTV⟩ : ∃ v, v = pb (stP ⟨2, ⟨a1, n1, c1, t1⟩, ⟨a2, n2, c2, t2⟩, ⟨a3, n3, c3, t3⟩, ⟨a4, n4, c4, o4⟩⟩) := ⟨_, rfl⟩
          have PF : Hid (isP n4 o4 → TV = true) := fun h4 => by rw [hTV]; exact pb_t ⟨.inr rfl, p1, p2, p3, h4⟩
          have NF : Hid (¬ isP n4 o4 → TV = false) := fun h4 => by rw [hTV]; exact pb_f fun hh => h4 hh.2.2.2.2
          have HTV := hid hTV
          clear hTV
          clear p1 p2 p3 K1 K2 K3
          go_wp2_with fail
          go_loopw [32] (fun v wr => ∃ k : Nat, k ≤ n4 ∧ v = .int .i64 (k : Int) ∧ (∀ i, i < k → cnP (o4 i)) ∧ Below w.heap.size w wr ∧ Below W0.heap.size W0 wr) (fun v _ => n4 - (intOf v).toNat)
          case atStart => exact ⟨0, Nat.zero_le _, rfl, fun i hi => absurd hi (Nat.not_lt_zero _), B0.out, Below.refl _ _⟩
          case round =>
            obtain ⟨k, hk, rfl, hr, hB, hB'⟩ := hrel
            have HR := hid hr
            have HB := hid hB
            have HB' := hid hB'
            clear hr hB hB'
            by_cases hlt : k < n4
            · have d3 : (k : Int) < (n4 : Int) := by omega
              have k0 : (0 : Int) ≤ (k : Int) := by omega
              rcases (HC.out.below HB'.out).2 with h00 | ⟨b, off, rfl, hbl, hc⟩
              · omega
              obtain ⟨y0, y1, y2⟩ := hc k hlt
              have st := HT.out k hlt
              have FA : Hid (¬ cnP (o4 k) → TV = false) := fun hh => NF.out fun hi => hh (hi k hlt)
              have TR : Hid (cnP (o4 k) → ∀ i, i < k + 1 → cnP (o4 i)) := fun hh i hi => by
                by_cases e : i = k
                · subst e; exact hh
                · exact HR.out i (by omega)
              have KC := fun w => hid (iCF (o4 k) st w)
              generalize o4 k = C at y0 y1 y2 st FA TR KC
              obtain ⟨kd, tx, tm⟩ := C
              dsimp only at y0 y1 y2 st KC
              obtain ⟨W2, hW2⟩ : ∃ W, W = wr.alloc (.cells #[.int .i64 kd, .string tx, .int .i64 tm] 112) := ⟨_, rfl⟩
              have B2 : Hid (Below w.heap.size w W2) := by rw [hW2]; exact HB.out.alloc HB.out.size _
              have B2' : Hid (Below W0.heap.size W0 W2) := by rw [hW2]; exact HB'.out.alloc HB'.out.size _
              clear hc
              by_cases q : cnP ⟨kd, tx, tm⟩
              · have N := hid (TR.out q)
                have hp := pb_t q
                simp only [hp] at KC
                clear q hp FA TR
                go_wp2_with fail
                rw [← hW2]
                clear hW2
                refine (KC _).out.mono ?_
                rintro e w3 ⟨rfl, hb3⟩
                have B3 := hid (B2.out.trans (hb3.mono B2.out.size))
                have B3' := hid (B2'.out.trans (hb3.mono B2'.out.size))
                clear hb3 y0 y1 y2
                go_wp2
                go_roundw
                case rel => exact ⟨k + 1, by omega, by go_num, N.out, B3.out, B3'.out⟩
                case measure => simp [intOf]; omega
              · have N := hid (FA.out q)
                have hp := pb_f q
                simp only [hp] at KC
                clear q hp FA TR
                go_wp2_with fail
                rw [← hW2]
                clear hW2
                refine (KC _).out.mono ?_
                rintro e w3 ⟨rfl, hb3⟩
                have B3 := hid (B2.out.trans (hb3.mono B2.out.size))
                clear hb3 y0 y1 y2
                go_wp2
                go_ret
                exact ⟨by rw [← HTV.out, N.out]; rfl, B3.out⟩
            · have d3 : ¬ (k : Int) < (n4 : Int) := by omega
              have N := hid (PF.out fun i hi => HR.out i (by omega))
              go_wp2
              go_ret
              exact ⟨by rw [← HTV.out, N.out]; rfl, HB.out⟩
        · rw [pb_f p3] at K3
          have N : Hid (pb (stP ⟨2, ⟨a1, n1, c1, t1⟩, ⟨a2, n2, c2, t2⟩, ⟨a3, n3, c3, t3⟩, ⟨a4, n4, c4, o4⟩⟩) = false) := pb_f fun hh => p3 hh.2.2.2.1
          refine K3.out.mono ?_
          rintro e w2 ⟨rfl, hh2⟩
          obtain rfl := hh2.symm
          go_wp2
          go_ret
          exact ⟨by rw [N.out]; rfl, B0.out⟩
      · rw [pb_f p2] at K2
        have N : Hid (pb (stP ⟨2, ⟨a1, n1, c1, t1⟩, ⟨a2, n2, c2, t2⟩, ⟨a3, n3, c3, t3⟩, ⟨a4, n4, c4, o4⟩⟩) = false) := pb_f fun hh => p2 hh.2.2.1
        refine K2.out.mono ?_
        rintro e w2 ⟨rfl, hh2⟩
        obtain rfl := hh2.symm
        go_wp2
        go_ret
        exact ⟨by rw [N.out]; rfl, B0.out⟩
    · rw [pb_f p1] at K1
      have N : Hid (pb (stP ⟨2, ⟨a1, n1, c1, t1⟩, ⟨a2, n2, c2, t2⟩, ⟨a3, n3, c3, t3⟩, ⟨a4, n4, c4, o4⟩⟩) = false) := pb_f fun hh => p1 hh.2.1
      refine K1.out.mono ?_
      rintro e w2 ⟨rfl, hh2⟩
      obtain rfl := hh2.symm
      go_wp2
      go_ret
      exact ⟨by rw [N.out]; rfl, B0.out⟩
  have N : Hid (pb (stP ⟨f, ⟨a1, n1, c1, t1⟩, ⟨a2, n2, c2, t2⟩, ⟨a3, n3, c3, t3⟩, ⟨a4, n4, c4, o4⟩⟩) = false) := pb_f fun hh => by rcases hh.1 with h1 | h1 <;> contradiction
  have b1 : (f != 1) = true := by simpa using f1
  have b2 : (f != 2) = true := by simpa using f2
  have B1 := B0
  rw [hW0] at B1
  clear K1 K2 K3
  go_enter Tryz.func89, Tryz.ntmps89
  go_wp2
  go_ret
  exact ⟨by rw [N.out]; rfl, B1.out⟩
end Go.Proofs.YtokjfffcciddhaaGreatDoor
