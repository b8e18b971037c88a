import Derived.Test.YtokjfffcciddhaaGreatDoorIPol4
namespace Go.Proofs.YtokjfffcciddhaaGreatDoor
open Go.RowKit
/-! The program's checkStatement, checkStatements: they throw. -/
/-- a fault thrown -/
def Thrown (e : Ending) : Prop := ∃ c l : Int, ¬ c = 0 ∧ e = .panicked [{ v := .iface 94 (.agg #[.int .i64 c, .int .i64 l]), recovered := false }]
set_option maxRecDepth 20000 in
set_option maxHeartbeats 4000000 in
theorem iChk_ok (s : St) (hs : StB s 1048576) (l : Int) (i : Nat) (hp : stP s) (hi : i < 50) (hn : s.cs.n ≤ 10) (w : World) (h : StIn w s) :
    Calls Tryz.prog 71 #[.agg #[.int .i64 s.ef, .slice s.wo.ad s.wo.n s.wo.cap, .slice s.wa.ad s.wa.n s.wa.cap, .slice s.wi.ad s.wi.n s.wi.cap, .slice s.cs.ad s.cs.n s.cs.cap], .int .i64 l, .int .i64 (i : Int)] w fun e w' => e = .returned (.tuple #[]) ∧ Below w.heap.size w w' := by
  have B0 : Hid (Below w.heap.size w (w.alloc (.cells #[.int .i64 s.ef, .slice s.wo.ad s.wo.n s.wo.cap, .slice s.wa.ad s.wa.n s.wa.cap, .slice s.wi.ad s.wi.n s.wi.cap, .slice s.cs.ad s.cs.n s.cs.cap] 85))) := balCn (Below.refl _ _) _
  have K := hid (iStF s hs _ (h.below B0.out))
  rw [pb_t hp] at K
  obtain ⟨W0, hW0⟩ : ∃ W, W = w.alloc (.cells #[.int .i64 s.ef, .slice s.wo.ad s.wo.n s.wo.cap, .slice s.wa.ad s.wa.n s.wa.cap, .slice s.wi.ad s.wi.n s.wi.cap, .slice s.cs.ad s.cs.n s.cs.cap] 85) := ⟨_, rfl⟩
  have A0 : Hid (RowAt W0 w.heap.size 85 #[.int .i64 s.ef, .slice s.wo.ad s.wo.n s.wo.cap, .slice s.wa.ad s.wa.n s.wa.cap, .slice s.wi.ad s.wi.n s.wi.cap, .slice s.cs.ad s.cs.n s.cs.cap]) := by rw [hW0]; exact RowAt.new _ _ _
  rw [← hW0] at B0 K
  clear hp hs h
  obtain ⟨f, ⟨a1, n1, c1, t1⟩, ⟨a2, n2, c2, t2⟩, ⟨a3, n3, c3, t3⟩, ⟨a4, n4, c4, o4⟩⟩ := s
  dsimp only at B0 K hW0 A0 hn ⊢
  go_enter Tryz.func71, Tryz.ntmps71
  go_wp2_with fail
  rw [← hW0]
  clear hW0
  refine K.out.mono ?_
  rintro e w2 ⟨rfl, hb2⟩
  have x4 := (hb2.cell (p := ⟨w.heap.size, 4, none⟩) A0.out.lt).trans (A0.out.cell 4)
  have B2 := hid (B0.out.trans (hb2.mono B0.out.size))
  clear hb2 A0 B0 K
  have d1 : ¬ (50 : Int) ≤ (i : Int) := by omega
  have d2 : ¬ (10 : Int) < (n4 : Int) := by omega
  go_wp2
  go_end0
  exact ⟨rfl, B2.out⟩
set_option maxRecDepth 20000 in
set_option maxHeartbeats 4000000 in
theorem iChk_no (s : St) (hs : StB s 1048576) (l : Int) (i : Nat) (hi0 : i ≤ 1048576) (hp : ¬ (stP s ∧ i < 50 ∧ s.cs.n ≤ 10)) (w : World) (h : StIn w s) :
    Calls Tryz.prog 71 #[.agg #[.int .i64 s.ef, .slice s.wo.ad s.wo.n s.wo.cap, .slice s.wa.ad s.wa.n s.wa.cap, .slice s.wi.ad s.wi.n s.wi.cap, .slice s.cs.ad s.cs.n s.cs.cap], .int .i64 l, .int .i64 (i : Int)] w fun e w' => Thrown e ∧ Below w.heap.size w w' := by
  have B0 : Hid (Below w.heap.size w (w.alloc (.cells #[.int .i64 s.ef, .slice s.wo.ad s.wo.n s.wo.cap, .slice s.wa.ad s.wa.n s.wa.cap, .slice s.wi.ad s.wi.n s.wi.cap, .slice s.cs.ad s.cs.n s.cs.cap] 85))) := balCn (Below.refl _ _) _
  have K := hid (iStF s hs _ (h.below B0.out))
  obtain ⟨W0, hW0⟩ : ∃ W, W = w.alloc (.cells #[.int .i64 s.ef, .slice s.wo.ad s.wo.n s.wo.cap, .slice s.wa.ad s.wa.n s.wa.cap, .slice s.wi.ad s.wi.n s.wi.cap, .slice s.cs.ad s.cs.n s.cs.cap] 85) := ⟨_, rfl⟩
  have A0 : Hid (RowAt W0 w.heap.size 85 #[.int .i64 s.ef, .slice s.wo.ad s.wo.n s.wo.cap, .slice s.wa.ad s.wa.n s.wa.cap, .slice s.wi.ad s.wi.n s.wi.cap, .slice s.cs.ad s.cs.n s.cs.cap]) := by rw [hW0]; exact RowAt.new _ _ _
  rw [← hW0] at B0 K
  have hn : s.cs.n ≤ 1048576 := hs.cs.1
  clear hs h
  by_cases q : stP s
  · rw [pb_t q] at K
    have hq : ¬ (i < 50 ∧ s.cs.n ≤ 10) := fun hh => hp ⟨q, hh⟩
    clear hp q
    obtain ⟨f, ⟨a1, n1, c1, t1⟩, ⟨a2, n2, c2, t2⟩, ⟨a3, n3, c3, t3⟩, ⟨a4, n4, c4, o4⟩⟩ := s
    dsimp only at B0 K hW0 A0 hn hq ⊢
    go_enter Tryz.func71, Tryz.ntmps71
    go_wp2_with fail
    rw [← hW0]
    clear hW0
    refine K.out.mono ?_
    rintro e w2 ⟨rfl, hb2⟩
    have x4 := (hb2.cell (p := ⟨w.heap.size, 4, none⟩) A0.out.lt).trans (A0.out.cell 4)
    have B2 := hid (B0.out.trans (hb2.mono B0.out.size))
    clear hb2 A0 B0 K
    by_cases q1 : 50 ≤ i
    · have d1 : (50 : Int) ≤ (i : Int) := by omega
      go_wp2
      exact ⟨rfl, ⟨4, l, by decide, rfl⟩, B2.out⟩
    · have d1 : ¬ (50 : Int) ≤ (i : Int) := by omega
      have d2 : (10 : Int) < (n4 : Int) := by omega
      go_wp2
      exact ⟨rfl, ⟨4, l, by decide, rfl⟩, B2.out⟩
  · rw [pb_f q] at K
    clear hp q
    obtain ⟨f, ⟨a1, n1, c1, t1⟩, ⟨a2, n2, c2, t2⟩, ⟨a3, n3, c3, t3⟩, ⟨a4, n4, c4, o4⟩⟩ := s
    dsimp only at B0 K hW0 A0 hn ⊢
    go_enter Tryz.func71, Tryz.ntmps71
    go_wp2_with fail
    rw [← hW0]
    clear hW0
    refine K.out.mono ?_
    rintro e w2 ⟨rfl, hb2⟩
    have B2 := hid (B0.out.trans (hb2.mono B0.out.size))
    clear hb2 A0 B0 K
    go_wp2
    exact ⟨rfl, ⟨3, l, by decide, rfl⟩, B2.out⟩
theorem Thrown.ex {e : Ending} (h : Thrown e) : ∃ c l : Int, ¬ c = 0 ∧ e = .panicked [{ v := .iface 94 (.agg #[.int .i64 c, .int .i64 l]), recovered := false }] := h
end Go.Proofs.YtokjfffcciddhaaGreatDoor
