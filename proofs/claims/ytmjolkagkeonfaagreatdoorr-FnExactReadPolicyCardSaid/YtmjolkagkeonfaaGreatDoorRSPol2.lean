import Derived.Test.YtmjolkagkeonfaaGreatDoorRSPol
namespace Go.Proofs.YtmjolkagkeonfaaGreatDoorR
open Go.RowKit
set_option maxRecDepth 20000 in
set_option maxHeartbeats 4000000 in
theorem sRight (s : St) (hs : StB s 1048576) (w : World) (h : StIn w s) :
    Calls Tryz.prog 28 #[.agg #[.int .i64 s.ef, .slice s.wo.ad s.wo.n s.wo.cap, .slice s.wa.ad s.wa.n s.wa.cap, .slice s.wi.ad s.wi.n s.wi.cap, .slice s.cs.ad s.cs.n s.cs.cap]] w fun e w' => e = .returned (.bool (pb (stP s))) ∧ Below w.heap.size w w' := by
  obtain ⟨f, ⟨a1, n1, c1, t1⟩, ⟨a2, n2, c2, t2⟩, ⟨a3, n3, c3, t3⟩, ⟨a4, n4, c4, o4⟩⟩ := s
  dsimp only
  obtain ⟨W0, hW0⟩ : ∃ W, W = w.alloc (.cells #[.int .i64 f, .slice a1 n1 c1, .slice a2 n2 c2, .slice a3 n3 c3, .slice a4 n4 c4] 45) := ⟨_, rfl⟩
  have A0 : RowAt W0 w.heap.size 45 #[.int .i64 f, .slice a1 n1 c1, .slice a2 n2 c2, .slice a3 n3 c3, .slice a4 n4 c4] := by rw [hW0]; exact RowAt.new _ _ _
  have B0 : Hid (Below w.heap.size w W0) := by rw [hW0]; exact balCn (Below.refl _ _) _
  have K1 := hid (sList a1 n1 c1 t1 hs.wo.1 hs.wo.2 W0 (h.wo.below B0.out))
  have K2 := hid (sList a2 n2 c2 t2 hs.wa.1 hs.wa.2 W0 (h.wa.below B0.out))
  have K3 := hid (sList a3 n3 c3 t3 hs.wi.1 hs.wi.2 W0 (h.wi.below B0.out))
  have K4 := hid (sIfs a4 n4 c4 o4 hs.cs.1 hs.cs.2 W0 (h.cs.below B0.out))
  have x0 := A0.cell 0
  have x1 := A0.cell 1
  have x2 := A0.cell 2
  have x3 := A0.cell 3
  have x4 := A0.cell 4
  clear h hs A0
  by_cases f1 : f = 1
  · subst f1
    go_enter Tryz.func28, Tryz.ntmps28
    go_wp2_with fail
    rw [← hW0]
    clear hW0
    by_cases p1 : lsP n1 t1
    · rw [pb_t p1] at K1
      refine K1.out.mono ?_
      rintro e w2 ⟨rfl, rfl⟩
      go_wp2_with fail
      by_cases p2 : lsP n2 t2
      · rw [pb_t p2] at K2
        refine K2.out.mono ?_
        rintro e w2 ⟨rfl, rfl⟩
        go_wp2_with fail
        by_cases p3 : lsP n3 t3
        · rw [pb_t p3] at K3
          refine K3.out.mono ?_
          rintro e w2 ⟨rfl, rfl⟩
          go_wp2_with fail
          by_cases p4 : isP n4 o4
          · rw [pb_t p4] at K4
            have N : Hid (pb (stP ⟨1, ⟨a1, n1, c1, t1⟩, ⟨a2, n2, c2, t2⟩, ⟨a3, n3, c3, t3⟩, ⟨a4, n4, c4, o4⟩⟩) = true) := pb_t ⟨.inl rfl, p1, p2, p3, p4⟩
            refine K4.out.mono ?_
            rintro e w3 ⟨rfl, hb3⟩
            have B3 := hid (B0.out.trans (hb3.mono B0.out.size))
            clear hb3
            go_wp2
            go_ret
            exact ⟨by rw [N.out]; rfl, B3.out⟩
          · rw [pb_f p4] at K4
            have N : Hid (pb (stP ⟨1, ⟨a1, n1, c1, t1⟩, ⟨a2, n2, c2, t2⟩, ⟨a3, n3, c3, t3⟩, ⟨a4, n4, c4, o4⟩⟩) = false) := pb_f fun hh => p4 hh.2.2.2.2
            refine K4.out.mono ?_
            rintro e w3 ⟨rfl, hb3⟩
            have B3 := hid (B0.out.trans (hb3.mono B0.out.size))
            clear hb3
            go_wp2
            go_ret
            exact ⟨by rw [N.out]; rfl, B3.out⟩
        · rw [pb_f p3] at K3
          have N : Hid (pb (stP ⟨1, ⟨a1, n1, c1, t1⟩, ⟨a2, n2, c2, t2⟩, ⟨a3, n3, c3, t3⟩, ⟨a4, n4, c4, o4⟩⟩) = false) := pb_f fun hh => p3 hh.2.2.2.1
          refine K3.out.mono ?_
          rintro e w2 ⟨rfl, rfl⟩
          go_wp2
          go_ret
          exact ⟨by rw [N.out]; rfl, B0.out⟩
      · rw [pb_f p2] at K2
        have N : Hid (pb (stP ⟨1, ⟨a1, n1, c1, t1⟩, ⟨a2, n2, c2, t2⟩, ⟨a3, n3, c3, t3⟩, ⟨a4, n4, c4, o4⟩⟩) = false) := pb_f fun hh => p2 hh.2.2.1
        refine K2.out.mono ?_
        rintro e w2 ⟨rfl, rfl⟩
        go_wp2
        go_ret
        exact ⟨by rw [N.out]; rfl, B0.out⟩
    · rw [pb_f p1] at K1
      have N : Hid (pb (stP ⟨1, ⟨a1, n1, c1, t1⟩, ⟨a2, n2, c2, t2⟩, ⟨a3, n3, c3, t3⟩, ⟨a4, n4, c4, o4⟩⟩) = false) := pb_f fun hh => p1 hh.2.1
      refine K1.out.mono ?_
      rintro e w2 ⟨rfl, rfl⟩
      go_wp2
      go_ret
      exact ⟨by rw [N.out]; rfl, B0.out⟩
  by_cases f2 : f = 2
  · subst f2
    go_enter Tryz.func28, Tryz.ntmps28
    go_wp2_with fail
    rw [← hW0]
    clear hW0
    by_cases p1 : lsP n1 t1
    · rw [pb_t p1] at K1
      refine K1.out.mono ?_
      rintro e w2 ⟨rfl, rfl⟩
      go_wp2_with fail
      by_cases p2 : lsP n2 t2
      · rw [pb_t p2] at K2
        refine K2.out.mono ?_
        rintro e w2 ⟨rfl, rfl⟩
        go_wp2_with fail
        by_cases p3 : lsP n3 t3
        · rw [pb_t p3] at K3
          refine K3.out.mono ?_
          rintro e w2 ⟨rfl, rfl⟩
          go_wp2_with fail
          by_cases p4 : isP n4 o4
          · rw [pb_t p4] at K4
            have N : Hid (pb (stP ⟨2, ⟨a1, n1, c1, t1⟩, ⟨a2, n2, c2, t2⟩, ⟨a3, n3, c3, t3⟩, ⟨a4, n4, c4, o4⟩⟩) = true) := pb_t ⟨.inr rfl, p1, p2, p3, p4⟩
            refine K4.out.mono ?_
            rintro e w3 ⟨rfl, hb3⟩
            have B3 := hid (B0.out.trans (hb3.mono B0.out.size))
            clear hb3
            go_wp2
            go_ret
            exact ⟨by rw [N.out]; rfl, B3.out⟩
          · rw [pb_f p4] at K4
            have N : Hid (pb (stP ⟨2, ⟨a1, n1, c1, t1⟩, ⟨a2, n2, c2, t2⟩, ⟨a3, n3, c3, t3⟩, ⟨a4, n4, c4, o4⟩⟩) = false) := pb_f fun hh => p4 hh.2.2.2.2
            refine K4.out.mono ?_
            rintro e w3 ⟨rfl, hb3⟩
            have B3 := hid (B0.out.trans (hb3.mono B0.out.size))
            clear hb3
            go_wp2
            go_ret
            exact ⟨by rw [N.out]; rfl, B3.out⟩
        · rw [pb_f p3] at K3
          have N : Hid (pb (stP ⟨2, ⟨a1, n1, c1, t1⟩, ⟨a2, n2, c2, t2⟩, ⟨a3, n3, c3, t3⟩, ⟨a4, n4, c4, o4⟩⟩) = false) := pb_f fun hh => p3 hh.2.2.2.1
          refine K3.out.mono ?_
          rintro e w2 ⟨rfl, rfl⟩
          go_wp2
          go_ret
          exact ⟨by rw [N.out]; rfl, B0.out⟩
      · rw [pb_f p2] at K2
        have N : Hid (pb (stP ⟨2, ⟨a1, n1, c1, t1⟩, ⟨a2, n2, c2, t2⟩, ⟨a3, n3, c3, t3⟩, ⟨a4, n4, c4, o4⟩⟩) = false) := pb_f fun hh => p2 hh.2.2.1
        refine K2.out.mono ?_
        rintro e w2 ⟨rfl, rfl⟩
        go_wp2
        go_ret
        exact ⟨by rw [N.out]; rfl, B0.out⟩
    · rw [pb_f p1] at K1
      have N : Hid (pb (stP ⟨2, ⟨a1, n1, c1, t1⟩, ⟨a2, n2, c2, t2⟩, ⟨a3, n3, c3, t3⟩, ⟨a4, n4, c4, o4⟩⟩) = false) := pb_f fun hh => p1 hh.2.1
      refine K1.out.mono ?_
      rintro e w2 ⟨rfl, rfl⟩
      go_wp2
      go_ret
      exact ⟨by rw [N.out]; rfl, B0.out⟩
  have N : Hid (pb (stP ⟨f, ⟨a1, n1, c1, t1⟩, ⟨a2, n2, c2, t2⟩, ⟨a3, n3, c3, t3⟩, ⟨a4, n4, c4, o4⟩⟩) = false) := pb_f fun hh => by rcases hh.1 with h1 | h1 <;> contradiction
  have b1 : (f == 1) = false := beq_eq_false_iff_ne.2 f1
  have b2 : (f == 2) = false := beq_eq_false_iff_ne.2 f2
  have B1 := B0
  rw [hW0] at B1
  clear K1 K2 K3 K4
  go_enter Tryz.func28, Tryz.ntmps28
  go_wp2
  go_ret
  exact ⟨by rw [N.out]; rfl, B1.out⟩
set_option maxRecDepth 20000 in
set_option maxHeartbeats 4000000 in
theorem sPolF (a : Option Addr) (m cap : Nat) (R : Nat → St) (hm : m ≤ 1048576) (hs : ∀ k, k < m → StB (R k) 1048576) (w : World) (h : Sts w a m cap R) :
    Calls Tryz.prog 9 #[.slice a m cap] w fun e w' => e = .returned (.int .i64 (plV m R)) ∧ Below w.heap.size w w' := by
  have HH := hid h
  have HS := hid hs
  clear h hs
  by_cases h50 : 50 < m
  · have d1 : (50 : Int) < (m : Int) := by omega
    have N : Hid (plV m R = 1) := by show _ = _; unfold plV; rw [pb_f (fun hh => by have := hh.1; omega)]; rfl
    go_enter Tryz.func9, Tryz.ntmps9
    go_wp2
    go_ret
    exact ⟨by rw [N.out]; rfl, Below.refl _ _⟩
  have d1 : ¬ (50 : Int) < (m : Int) := by omega
  go_enter Tryz.func9, Tryz.ntmps9
  go_wp2
  go_loopw [3] (fun v wr => ∃ k : Nat, k ≤ m ∧ v = .int .i64 (k : Int) ∧ (∀ i, i < k → stP (R i) ∧ (R i).cs.n ≤ 10) ∧ Below w.heap.size w wr) (fun v _ => m - (intOf v).toNat)
  case atStart => exact ⟨0, Nat.zero_le _, rfl, fun i hi => absurd hi (Nat.not_lt_zero _), Below.refl _ _⟩
  case round =>
    obtain ⟨k, hk, rfl, hr, hB⟩ := hrel
    have HR := hid hr
    have HB := hid hB
    clear hr hB
    by_cases hlt : k < m
    · have d3 : (k : Int) < (m : Int) := by omega
      have k0 : (0 : Int) ≤ (k : Int) := by omega
      rcases (HH.out.below HB.out).2.1 with h00 | ⟨b, off, rfl, hbl, hc⟩
      · omega
      obtain ⟨x0, x1, x2, x3, x4⟩ := hc k hlt
      have K := hid (sRight (R k) (HS.out k hlt) wr ((HH.out.below HB.out).2.2 k hlt))
      have FA : Hid (¬ (stP (R k) ∧ (R k).cs.n ≤ 10) → plV m R = 1) := fun hh => by unfold plV; rw [pb_f (fun hi => hh (hi.2 k hlt))]; rfl
      have TR : Hid ((stP (R k) ∧ (R k).cs.n ≤ 10) → ∀ i, i < k + 1 → stP (R i) ∧ (R i).cs.n ≤ 10) := fun hh i hi => by
        by_cases e : i = k
        · subst e; exact hh
        · exact HR.out i (by omega)
      clear hc
      have nb := (HS.out k hlt).cs.1
      generalize R k = T at x0 x1 x2 x3 x4 K FA TR nb
      by_cases p1 : stP T
      · rw [pb_t p1] at K
        have FA2 : Hid (¬ T.cs.n ≤ 10 → plV m R = 1) := fun hh => FA.out (fun h2 => hh h2.2)
        have TR2 : Hid (T.cs.n ≤ 10 → ∀ i, i < k + 1 → stP (R i) ∧ (R i).cs.n ≤ 10) := fun hh => TR.out ⟨p1, hh⟩
        clear FA TR p1
        obtain ⟨f, ⟨a1, n1, c1, t1⟩, ⟨a2, n2, c2, t2⟩, ⟨a3, n3, c3, t3⟩, ⟨a4, n4, c4, o4⟩⟩ := T
        dsimp only at x0 x1 x2 x3 x4 K FA2 TR2 nb
        go_wp2_with fail
        refine K.out.mono ?_
        rintro e w2 ⟨rfl, hb2⟩
        have y4 := (hb2.cell (p := ⟨b, off + k * 5 + 4, none⟩) hbl).trans x4
        have B2 := hid (HB.out.trans (hb2.mono HB.out.size))
        clear hb2 HB x0 x1 x2 x3 x4 K
        by_cases n10 : n4 ≤ 10
        · have d4 : ¬ (10 : Int) < (n4 : Int) := by omega
          have N := hid (TR2.out n10)
          go_wp2
          go_roundw
          case rel => exact ⟨k + 1, by omega, by go_num, N.out, B2.out⟩
          case measure => simp [intOf]; omega
        · have d4 : (10 : Int) < (n4 : Int) := by omega
          have N := hid (FA2.out n10)
          go_wp2
          go_ret
          exact ⟨by rw [N.out]; rfl, B2.out⟩
      · rw [pb_f p1] at K
        have N := hid (FA.out (fun hh => p1 hh.1))
        clear FA TR p1
        obtain ⟨f, ⟨a1, n1, c1, t1⟩, ⟨a2, n2, c2, t2⟩, ⟨a3, n3, c3, t3⟩, ⟨a4, n4, c4, o4⟩⟩ := T
        dsimp only at x0 x1 x2 x3 x4 K
        go_wp2_with fail
        refine K.out.mono ?_
        rintro e w2 ⟨rfl, hb2⟩
        have B2 := hid (HB.out.trans (hb2.mono HB.out.size))
        clear hb2 HB x0 x1 x2 x3 x4 K
        go_wp2
        go_ret
        exact ⟨by rw [N.out]; rfl, B2.out⟩
    · have d3 : ¬ (k : Int) < (m : Int) := by omega
      have N : Hid (plV m R = 0) := by show _ = _; unfold plV; rw [pb_t ⟨by omega, fun i hi => HR.out i (by omega)⟩]; rfl
      go_wp2
      go_ret
      exact ⟨by rw [N.out]; rfl, HB.out⟩
end Go.Proofs.YtmjolkagkeonfaaGreatDoorR
