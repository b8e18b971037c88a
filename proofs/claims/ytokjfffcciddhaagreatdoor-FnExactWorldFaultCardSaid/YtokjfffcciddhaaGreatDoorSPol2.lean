import Derived.Test.YtokjfffcciddhaaGreatDoorSPol
namespace Go.Proofs.YtokjfffcciddhaaGreatDoor
open Go.RowKit
set_option maxRecDepth 20000 in
set_option maxHeartbeats 4000000 in
theorem sRight (s : St) (hs : StB s 1048576) (w : World) (h : StIn w s) :
    Calls Tryz.prog 58 #[.agg #[.int .i64 s.ef, .slice s.wo.ad s.wo.n s.wo.cap, .slice s.wa.ad s.wa.n s.wa.cap, .slice s.wi.ad s.wi.n s.wi.cap, .slice s.cs.ad s.cs.n s.cs.cap]] w fun e w' => e = .returned (.bool (pb (stP s))) ∧ Below w.heap.size w w' := by
  obtain ⟨f, ⟨a1, n1, c1, t1⟩, ⟨a2, n2, c2, t2⟩, ⟨a3, n3, c3, t3⟩, ⟨a4, n4, c4, o4⟩⟩ := s
  dsimp only
  obtain ⟨W0, hW0⟩ : ∃ W, W = w.alloc (.cells #[.int .i64 f, .slice a1 n1 c1, .slice a2 n2 c2, .slice a3 n3 c3, .slice a4 n4 c4] 85) := ⟨_, rfl⟩
  have A0 : RowAt W0 w.heap.size 85 #[.int .i64 f, .slice a1 n1 c1, .slice a2 n2 c2, .slice a3 n3 c3, .slice a4 n4 c4] := by rw [hW0]; exact RowAt.new _ _ _
  have B0 : Hid (Below w.heap.size w W0) := by rw [hW0]; exact balCn (Below.refl _ _) _
  have K1 := hid (sList a1 n1 c1 t1 hs.wo.1 hs.wo.2 W0 (h.wo.below B0.out))
  have K2 := hid (sList a2 n2 c2 t2 hs.wa.1 hs.wa.2 W0 (h.wa.below B0.out))
  have K3 := hid (sList a3 n3 c3 t3 hs.wi.1 hs.wi.2 W0 (h.wi.below B0.out))
  have K4 := hid (sIfs a4 n4 c4 o4 hs.cs.1 hs.cs.2 W0 (h.cs.below B0.out))
  have x0 := A0.cell 0
  have x1 := A0.cell 1
  have x2 := A0.cell 2
  have x3 := A0.cell 3
  have x4 := A0.cell 4
  clear h hs A0
  by_cases f1 : f = 1
  · subst f1
    go_enter Tryz.func58, Tryz.ntmps58
    go_wp2_with fail
    rw [← hW0]
    clear hW0
    by_cases p1 : lsP n1 t1
    · rw [pb_t p1] at K1
      refine K1.out.mono ?_
      rintro e w2 ⟨rfl, rfl⟩
      go_wp2_with fail
      by_cases p2 : lsP n2 t2
      · rw [pb_t p2] at K2
        refine K2.out.mono ?_
        rintro e w2 ⟨rfl, rfl⟩
        go_wp2_with fail
        by_cases p3 : lsP n3 t3
        · rw [pb_t p3] at K3
          refine K3.out.mono ?_
          rintro e w2 ⟨rfl, rfl⟩
          go_wp2_with fail
          by_cases p4 : isP n4 o4
          · rw [pb_t p4] at K4
            have N : Hid (pb (stP ⟨1, ⟨a1, n1, c1, t1⟩, ⟨a2, n2, c2, t2⟩, ⟨a3, n3, c3, t3⟩, ⟨a4, n4, c4, o4⟩⟩) = true) := pb_t ⟨.inl rfl, p1, p2, p3, p4⟩
            refine K4.out.mono ?_
            rintro e w3 ⟨rfl, hb3⟩
            have B3 := hid (B0.out.trans (hb3.mono B0.out.size))
            clear hb3
            go_wp2
            go_ret
            exact ⟨by rw [N.out]; rfl, B3.out⟩
          · rw [pb_f p4] at K4
            have N : Hid (pb (stP ⟨1, ⟨a1, n1, c1, t1⟩, ⟨a2, n2, c2, t2⟩, ⟨a3, n3, c3, t3⟩, ⟨a4, n4, c4, o4⟩⟩) = false) := pb_f fun hh => p4 hh.2.2.2.2
            refine K4.out.mono ?_
            rintro e w3 ⟨rfl, hb3⟩
            have B3 := hid (B0.out.trans (hb3.mono B0.out.size))
            clear hb3
            go_wp2
            go_ret
            exact ⟨by rw [N.out]; rfl, B3.out⟩
        · rw [pb_f p3] at K3
          have N : Hid (pb (stP ⟨1, ⟨a1, n1, c1, t1⟩, ⟨a2, n2, c2, t2⟩, ⟨a3, n3, c3, t3⟩, ⟨a4, n4, c4, o4⟩⟩) = false) := pb_f fun hh => p3 hh.2.2.2.1
          refine K3.out.mono ?_
          rintro e w2 ⟨rfl, rfl⟩
          go_wp2
          go_ret
          exact ⟨by rw [N.out]; rfl, B0.out⟩
      · rw [pb_f p2] at K2
        have N : Hid (pb (stP ⟨1, ⟨a1, n1, c1, t1⟩, ⟨a2, n2, c2, t2⟩, ⟨a3, n3, c3, t3⟩, ⟨a4, n4, c4, o4⟩⟩) = false) := pb_f fun hh => p2 hh.2.2.1
        refine K2.out.mono ?_
        rintro e w2 ⟨rfl, rfl⟩
        go_wp2
        go_ret
        exact ⟨by rw [N.out]; rfl, B0.out⟩
    · rw [pb_f p1] at K1
      have N : Hid (pb (stP ⟨1, ⟨a1, n1, c1, t1⟩, ⟨a2, n2, c2, t2⟩, ⟨a3, n3, c3, t3⟩, ⟨a4, n4, c4, o4⟩⟩) = false) := pb_f fun hh => p1 hh.2.1
      refine K1.out.mono ?_
      rintro e w2 ⟨rfl, rfl⟩
      go_wp2
      go_ret
      exact ⟨by rw [N.out]; rfl, B0.out⟩
  by_cases f2 : f = 2
  · subst f2
    go_enter Tryz.func58, Tryz.ntmps58
    go_wp2_with fail
    rw [← hW0]
    clear hW0
    by_cases p1 : lsP n1 t1
    · rw [pb_t p1] at K1
      refine K1.out.mono ?_
      rintro e w2 ⟨rfl, rfl⟩
      go_wp2_with fail
      by_cases p2 : lsP n2 t2
      · rw [pb_t p2] at K2
        refine K2.out.mono ?_
        rintro e w2 ⟨rfl, rfl⟩
        go_wp2_with fail
        by_cases p3 : lsP n3 t3
        · rw [pb_t p3] at K3
          refine K3.out.mono ?_
          rintro e w2 ⟨rfl, rfl⟩
          go_wp2_with fail
          by_cases p4 : isP n4 o4
          · rw [pb_t p4] at K4
            have N : Hid (pb (stP ⟨2, ⟨a1, n1, c1, t1⟩, ⟨a2, n2, c2, t2⟩, ⟨a3, n3, c3, t3⟩, ⟨a4, n4, c4, o4⟩⟩) = true) := pb_t ⟨.inr rfl, p1, p2, p3, p4⟩
            refine K4.out.mono ?_
            rintro e w3 ⟨rfl, hb3⟩
            have B3 := hid (B0.out.trans (hb3.mono B0.out.size))
            clear hb3
            go_wp2
            go_ret
            exact ⟨by rw [N.out]; rfl, B3.out⟩
          · rw [pb_f p4] at K4
            have N : Hid (pb (stP ⟨2, ⟨a1, n1, c1, t1⟩, ⟨a2, n2, c2, t2⟩, ⟨a3, n3, c3, t3⟩, ⟨a4, n4, c4, o4⟩⟩) = false) := pb_f fun hh => p4 hh.2.2.2.2
            refine K4.out.mono ?_
            rintro e w3 ⟨rfl, hb3⟩
            have B3 := hid (B0.out.trans (hb3.mono B0.out.size))
            clear hb3
            go_wp2
            go_ret
            exact ⟨by rw [N.out]; rfl, B3.out⟩
        · rw [pb_f p3] at K3
          have N : Hid (pb (stP ⟨2, ⟨a1, n1, c1, t1⟩, ⟨a2, n2, c2, t2⟩, ⟨a3, n3, c3, t3⟩, ⟨a4, n4, c4, o4⟩⟩) = false) := pb_f fun hh => p3 hh.2.2.2.1
          refine K3.out.mono ?_
          rintro e w2 ⟨rfl, rfl⟩
          go_wp2
          go_ret
          exact ⟨by rw [N.out]; rfl, B0.out⟩
      · rw [pb_f p2] at K2
        have N : Hid (pb (stP ⟨2, ⟨a1, n1, c1, t1⟩, ⟨a2, n2, c2, t2⟩, ⟨a3, n3, c3, t3⟩, ⟨a4, n4, c4, o4⟩⟩) = false) := pb_f fun hh => p2 hh.2.2.1
        refine K2.out.mono ?_
        rintro e w2 ⟨rfl, rfl⟩
        go_wp2
        go_ret
        exact ⟨by rw [N.out]; rfl, B0.out⟩
    · rw [pb_f p1] at K1
      have N : Hid (pb (stP ⟨2, ⟨a1, n1, c1, t1⟩, ⟨a2, n2, c2, t2⟩, ⟨a3, n3, c3, t3⟩, ⟨a4, n4, c4, o4⟩⟩) = false) := pb_f fun hh => p1 hh.2.1
      refine K1.out.mono ?_
      rintro e w2 ⟨rfl, rfl⟩
      go_wp2
      go_ret
      exact ⟨by rw [N.out]; rfl, B0.out⟩
  have N : Hid (pb (stP ⟨f, ⟨a1, n1, c1, t1⟩, ⟨a2, n2, c2, t2⟩, ⟨a3, n3, c3, t3⟩, ⟨a4, n4, c4, o4⟩⟩) = false) := pb_f fun hh => by rcases hh.1 with h1 | h1 <;> contradiction
  have b1 : (f == 1) = false := beq_eq_false_iff_ne.2 f1
  have b2 : (f == 2) = false := beq_eq_false_iff_ne.2 f2
  have B1 := B0
  rw [hW0] at B1
  clear K1 K2 K3 K4
  go_enter Tryz.func58, Tryz.ntmps58
  go_wp2
  go_ret
  exact ⟨by rw [N.out]; rfl, B1.out⟩
end Go.Proofs.YtokjfffcciddhaaGreatDoor
