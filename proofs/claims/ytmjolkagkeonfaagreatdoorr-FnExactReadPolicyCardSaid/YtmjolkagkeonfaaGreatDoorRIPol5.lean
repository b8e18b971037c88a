import Derived.Test.YtmjolkagkeonfaaGreatDoorRIPol4
namespace Go.Proofs.YtmjolkagkeonfaaGreatDoorR
open Go.RowKit
/-! The program's checkStatement, checkStatements: they throw. -/
/-- a fault thrown -/
def Thrown (e : Ending) : Prop := ∃ c l : Int, ¬ c = 0 ∧ e = .panicked [{ v := .iface 58 (.agg #[.int .i64 c, .int .i64 l]), recovered := false }]
set_option maxRecDepth 20000 in
set_option maxHeartbeats 4000000 in
theorem iChk_ok (s : St) (hs : StB s 1048576) (l : Int) (i : Nat) (hp : stP s) (hi : i < 50) (hn : s.cs.n ≤ 10) (w : World) (h : StIn w s) :
    Calls Tryz.prog 47 #[.agg #[.int .i64 s.ef, .slice s.wo.ad s.wo.n s.wo.cap, .slice s.wa.ad s.wa.n s.wa.cap, .slice s.wi.ad s.wi.n s.wi.cap, .slice s.cs.ad s.cs.n s.cs.cap], .int .i64 l, .int .i64 (i : Int)] w fun e w' => e = .returned (.tuple #[]) ∧ Below w.heap.size w w' := by
  have B0 : Hid (Below w.heap.size w (w.alloc (.cells #[.int .i64 s.ef, .slice s.wo.ad s.wo.n s.wo.cap, .slice s.wa.ad s.wa.n s.wa.cap, .slice s.wi.ad s.wi.n s.wi.cap, .slice s.cs.ad s.cs.n s.cs.cap] 45))) := balCn (Below.refl _ _) _
  have K := hid (iStF s hs _ (h.below B0.out))
  rw [pb_t hp] at K
  obtain ⟨W0, hW0⟩ : ∃ W, W = w.alloc (.cells #[.int .i64 s.ef, .slice s.wo.ad s.wo.n s.wo.cap, .slice s.wa.ad s.wa.n s.wa.cap, .slice s.wi.ad s.wi.n s.wi.cap, .slice s.cs.ad s.cs.n s.cs.cap] 45) := ⟨_, rfl⟩
  have A0 : Hid (RowAt W0 w.heap.size 45 #[.int .i64 s.ef, .slice s.wo.ad s.wo.n s.wo.cap, .slice s.wa.ad s.wa.n s.wa.cap, .slice s.wi.ad s.wi.n s.wi.cap, .slice s.cs.ad s.cs.n s.cs.cap]) := by rw [hW0]; exact RowAt.new _ _ _
  rw [← hW0] at B0 K
  clear hp hs h
  obtain ⟨f, ⟨a1, n1, c1, t1⟩, ⟨a2, n2, c2, t2⟩, ⟨a3, n3, c3, t3⟩, ⟨a4, n4, c4, o4⟩⟩ := s
  dsimp only at B0 K hW0 A0 hn ⊢
  go_enter Tryz.func47, Tryz.ntmps47
  go_wp2_with fail
  rw [← hW0]
  clear hW0
  refine K.out.mono ?_
  rintro e w2 ⟨rfl, hb2⟩
  have x4 := (hb2.cell (p := ⟨w.heap.size, 4, none⟩) A0.out.lt).trans (A0.out.cell 4)
  have B2 := hid (B0.out.trans (hb2.mono B0.out.size))
  clear hb2 A0 B0 K
  have d1 : ¬ (50 : Int) ≤ (i : Int) := by omega
  have d2 : ¬ (10 : Int) < (n4 : Int) := by omega
  go_wp2
  go_end0
  exact ⟨rfl, B2.out⟩
set_option maxRecDepth 20000 in
set_option maxHeartbeats 4000000 in
theorem iChk_no (s : St) (hs : StB s 1048576) (l : Int) (i : Nat) (hi0 : i ≤ 1048576) (hp : ¬ (stP s ∧ i < 50 ∧ s.cs.n ≤ 10)) (w : World) (h : StIn w s) :
    Calls Tryz.prog 47 #[.agg #[.int .i64 s.ef, .slice s.wo.ad s.wo.n s.wo.cap, .slice s.wa.ad s.wa.n s.wa.cap, .slice s.wi.ad s.wi.n s.wi.cap, .slice s.cs.ad s.cs.n s.cs.cap], .int .i64 l, .int .i64 (i : Int)] w fun e w' => Thrown e ∧ Below w.heap.size w w' := by
  have B0 : Hid (Below w.heap.size w (w.alloc (.cells #[.int .i64 s.ef, .slice s.wo.ad s.wo.n s.wo.cap, .slice s.wa.ad s.wa.n s.wa.cap, .slice s.wi.ad s.wi.n s.wi.cap, .slice s.cs.ad s.cs.n s.cs.cap] 45))) := balCn (Below.refl _ _) _
  have K := hid (iStF s hs _ (h.below B0.out))
  obtain ⟨W0, hW0⟩ : ∃ W, W = w.alloc (.cells #[.int .i64 s.ef, .slice s.wo.ad s.wo.n s.wo.cap, .slice s.wa.ad s.wa.n s.wa.cap, .slice s.wi.ad s.wi.n s.wi.cap, .slice s.cs.ad s.cs.n s.cs.cap] 45) := ⟨_, rfl⟩
  have A0 : Hid (RowAt W0 w.heap.size 45 #[.int .i64 s.ef, .slice s.wo.ad s.wo.n s.wo.cap, .slice s.wa.ad s.wa.n s.wa.cap, .slice s.wi.ad s.wi.n s.wi.cap, .slice s.cs.ad s.cs.n s.cs.cap]) := by rw [hW0]; exact RowAt.new _ _ _
  rw [← hW0] at B0 K
  have hn : s.cs.n ≤ 1048576 := hs.cs.1
  clear hs h
  by_cases q : stP s
  · rw [pb_t q] at K
    have hq : ¬ (i < 50 ∧ s.cs.n ≤ 10) := fun hh => hp ⟨q, hh⟩
    clear hp q
    obtain ⟨f, ⟨a1, n1, c1, t1⟩, ⟨a2, n2, c2, t2⟩, ⟨a3, n3, c3, t3⟩, ⟨a4, n4, c4, o4⟩⟩ := s
    dsimp only at B0 K hW0 A0 hn hq ⊢
    go_enter Tryz.func47, Tryz.ntmps47
    go_wp2_with fail
    rw [← hW0]
    clear hW0
    refine K.out.mono ?_
    rintro e w2 ⟨rfl, hb2⟩
    have x4 := (hb2.cell (p := ⟨w.heap.size, 4, none⟩) A0.out.lt).trans (A0.out.cell 4)
    have B2 := hid (B0.out.trans (hb2.mono B0.out.size))
    clear hb2 A0 B0 K
    by_cases q1 : 50 ≤ i
    · have d1 : (50 : Int) ≤ (i : Int) := by omega
      go_wp2
      exact ⟨rfl, ⟨4, l, by decide, rfl⟩, B2.out⟩
    · have d1 : ¬ (50 : Int) ≤ (i : Int) := by omega
      have d2 : (10 : Int) < (n4 : Int) := by omega
      go_wp2
      exact ⟨rfl, ⟨4, l, by decide, rfl⟩, B2.out⟩
  · rw [pb_f q] at K
    clear hp q
    obtain ⟨f, ⟨a1, n1, c1, t1⟩, ⟨a2, n2, c2, t2⟩, ⟨a3, n3, c3, t3⟩, ⟨a4, n4, c4, o4⟩⟩ := s
    dsimp only at B0 K hW0 A0 hn ⊢
    go_enter Tryz.func47, Tryz.ntmps47
    go_wp2_with fail
    rw [← hW0]
    clear hW0
    refine K.out.mono ?_
    rintro e w2 ⟨rfl, hb2⟩
    have B2 := hid (B0.out.trans (hb2.mono B0.out.size))
    clear hb2 A0 B0 K
    go_wp2
    exact ⟨rfl, ⟨3, l, by decide, rfl⟩, B2.out⟩
theorem Thrown.ex {e : Ending} (h : Thrown e) : ∃ c l : Int, ¬ c = 0 ∧ e = .panicked [{ v := .iface 58 (.agg #[.int .i64 c, .int .i64 l]), recovered := false }] := h
set_option maxRecDepth 20000 in
set_option maxHeartbeats 4000000 in
theorem iChks (a : Option Addr) (m cap : Nat) (R : Nat → St) (hm : m ≤ 1048576) (hs : ∀ k, k < m → StB (R k) 1048576) (w : World) (h : Sts w a m cap R) :
    Calls Tryz.prog 27 #[.slice a m cap] w fun e w' => ((plP m R ∧ e = .returned (.tuple #[])) ∨ (¬ plP m R ∧ Thrown e)) ∧ Below w.heap.size w w' := by
  have HH := hid h
  have HS := hid hs
  clear h hs
  go_enter Tryz.func27, Tryz.ntmps27
  go_wp2_with fail
  go_loopw [6] (fun v wr => ∃ k : Nat, k ≤ m ∧ k ≤ 50 ∧ v = .int .i64 (k : Int) ∧ (∀ i, i < k → stP (R i) ∧ (R i).cs.n ≤ 10) ∧ Below w.heap.size w wr) (fun v _ => m - (intOf v).toNat)
  case atStart => exact ⟨0, Nat.zero_le _, Nat.zero_le _, rfl, fun i hi => absurd hi (Nat.not_lt_zero _), Below.refl _ _⟩
  case round =>
    obtain ⟨k, hk, hk50, rfl, hr, hB⟩ := hrel
    have HR := hid hr
    have HB := hid hB
    clear hr hB
    by_cases hlt : k < m
    · have d3 : (k : Int) < (m : Int) := by omega
      have k0 : (0 : Int) ≤ (k : Int) := by omega
      rcases (HH.out.below HB.out).2.1 with h00 | ⟨b, off, rfl, hbl, hc⟩
      · omega
      obtain ⟨x0, x1, x2, x3, x4⟩ := hc k hlt
      have hb5 := hid (HS.out k hlt)
      have hin := hid ((HH.out.below HB.out).2.2 k hlt)
      clear hc
      by_cases q : stP (R k) ∧ k < 50 ∧ (R k).cs.n ≤ 10
      · have N : Hid (∀ i, i < k + 1 → stP (R i) ∧ (R i).cs.n ≤ 10) := fun i hi => by
          by_cases e : i = k
          · subst e; exact ⟨q.1, q.2.2⟩
          · exact HR.out i (by omega)
        have q50 := q.2.1
        have K := fun (l : Int) w (hi : StIn w (R k)) => hid (iChk_ok (R k) hb5.out l k q.1 q.2.1 q.2.2 w hi)
        clear q hb5
        generalize R k = T at x0 x1 x2 x3 x4 K hin
        obtain ⟨f, ⟨a1, n1, c1, t1⟩, ⟨a2, n2, c2, t2⟩, ⟨a3, n3, c3, t3⟩, ⟨a4, n4, c4, o4⟩⟩ := T
        dsimp only at x0 x1 x2 x3 x4 K
        obtain ⟨W2, hW2⟩ : ∃ W, W = wr.alloc (.cells #[.int .i64 f, .slice a1 n1 c1, .slice a2 n2 c2, .slice a3 n3 c3, .slice a4 n4 c4] 45) := ⟨_, rfl⟩
        have B2 : Hid (Below w.heap.size w W2) := by rw [hW2]; exact HB.out.alloc HB.out.size _
        have I2 : Hid (StIn W2 ⟨f, ⟨a1, n1, c1, t1⟩, ⟨a2, n2, c2, t2⟩, ⟨a3, n3, c3, t3⟩, ⟨a4, n4, c4, o4⟩⟩) := by rw [hW2]; exact hin.out.below (balCn (Below.refl _ _) _)
        go_wp2_with fail
        rw [← hW2]
        clear hW2
        refine (K _ _ I2.out).out.mono ?_
        rintro e w3 ⟨rfl, hb3⟩
        have B3 := hid (B2.out.trans (hb3.mono B2.out.size))
        clear hb3 x0 x1 x2 x3 x4
        go_wp2
        go_roundw
        case rel => exact ⟨k + 1, by omega, by omega, by go_num, N.out, B3.out⟩
        case measure => simp [intOf]; omega
      · have N : Hid (¬ plP m R) := fun hh => q ⟨(hh.2 k hlt).1, by have := hh.1; omega, (hh.2 k hlt).2⟩
        have K := fun (l : Int) w (hi : StIn w (R k)) => hid (iChk_no (R k) hb5.out l k (by omega) q w hi)
        clear q hb5
        generalize R k = T at x0 x1 x2 x3 x4 K hin
        obtain ⟨f, ⟨a1, n1, c1, t1⟩, ⟨a2, n2, c2, t2⟩, ⟨a3, n3, c3, t3⟩, ⟨a4, n4, c4, o4⟩⟩ := T
        dsimp only at x0 x1 x2 x3 x4 K
        obtain ⟨W2, hW2⟩ : ∃ W, W = wr.alloc (.cells #[.int .i64 f, .slice a1 n1 c1, .slice a2 n2 c2, .slice a3 n3 c3, .slice a4 n4 c4] 45) := ⟨_, rfl⟩
        have B2 : Hid (Below w.heap.size w W2) := by rw [hW2]; exact HB.out.alloc HB.out.size _
        have I2 : Hid (StIn W2 ⟨f, ⟨a1, n1, c1, t1⟩, ⟨a2, n2, c2, t2⟩, ⟨a3, n3, c3, t3⟩, ⟨a4, n4, c4, o4⟩⟩) := by rw [hW2]; exact hin.out.below (balCn (Below.refl _ _) _)
        go_wp2_with fail
        rw [← hW2]
        clear hW2
        refine (K _ _ I2.out).out.mono ?_
        rintro e w3 ⟨hT, hb3⟩
        obtain ⟨c, l, hc0, rfl⟩ := hT
        have B3 := hid (B2.out.trans (hb3.mono B2.out.size))
        clear hb3 x0 x1 x2 x3 x4
        go_wp2
        exact ⟨rfl, .inr ⟨N.out, c, l, hc0, rfl⟩, B3.out⟩
    · have d3 : ¬ (k : Int) < (m : Int) := by omega
      have N : Hid (plP m R) := ⟨by omega, fun i hi => HR.out i (by omega)⟩
      go_wp2
      go_end0
      exact ⟨.inl ⟨N.out, rfl⟩, HB.out⟩
set_option maxRecDepth 20000 in
set_option maxHeartbeats 4000000 in
theorem iClo (b : Nat) (a : Option Addr) (m cap : Nat) (R : Nat → St) (hm : m ≤ 1048576) (hs : ∀ k, k < m → StB (R k) 1048576) (w : World) (hb : w.cell? ⟨b, 0, none⟩ = some (.slice a m cap)) (h : Sts w a m cap R) :
    Calls Tryz.prog 26 #[.pointer (some ⟨b, 0, none⟩)] w fun e w' => ((plP m R ∧ e = .returned (.tuple #[])) ∨ (¬ plP m R ∧ Thrown e)) ∧ Below w.heap.size w w' := by
  have K := hid (iChks a m cap R hm hs w h)
  clear h hs
  go_enter Tryz.func26, Tryz.ntmps26
  go_wp2_with fail
  refine K.out.mono ?_
  rintro e w2 ⟨(⟨hp, rfl⟩ | ⟨hp, c, l, hc0, rfl⟩), hb2⟩
  · have HP := hid hp
    have HB := hid hb2
    clear hp hb2
    go_wp2
    go_end0
    exact ⟨.inl ⟨HP.out, rfl⟩, HB.out⟩
  · have HP := hid hp
    have HB := hid hb2
    clear hp hb2
    go_wp2
    exact ⟨rfl, .inr ⟨HP.out, c, l, hc0, rfl⟩, HB.out⟩
end Go.Proofs.YtmjolkagkeonfaaGreatDoorR
