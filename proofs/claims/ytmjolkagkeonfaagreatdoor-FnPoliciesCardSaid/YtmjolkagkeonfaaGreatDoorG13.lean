import Derived.Test.YtmjolkagkeonfaaGreatDoorG9
import Derived.Test.YtmjolkagkeonfaaGreatDoorRpI5
namespace Go.Proofs.YtmjolkagkeonfaaGreatDoor
open Go.RowKit
set_option maxRecDepth 20000 in
set_option maxHeartbeats 4000000 in
theorem sRight (s : St) (hs : StB s 1048576) (w : World) (h : StIn w s) :
    Calls Tryz.prog 34 #[.agg #[.int .i64 s.ef, .slice s.wo.ad s.wo.n s.wo.cap, .slice s.wa.ad s.wa.n s.wa.cap, .slice s.wi.ad s.wi.n s.wi.cap, .slice s.cs.ad s.cs.n s.cs.cap]] w fun e w' => e = .returned (.bool (pb (stP s))) ∧ Below w.heap.size w w' := by
  obtain ⟨f, ⟨a1, n1, c1, t1⟩, ⟨a2, n2, c2, t2⟩, ⟨a3, n3, c3, t3⟩, ⟨a4, n4, c4, o4⟩⟩ := s
  dsimp only
  obtain ⟨W0, hW0⟩ : ∃ W, W = w.alloc (.cells #[.int .i64 f, .slice a1 n1 c1, .slice a2 n2 c2, .slice a3 n3 c3, .slice a4 n4 c4] 73) := ⟨_, rfl⟩
  have A0 : RowAt W0 w.heap.size 73 #[.int .i64 f, .slice a1 n1 c1, .slice a2 n2 c2, .slice a3 n3 c3, .slice a4 n4 c4] := by rw [hW0]; exact RowAt.new _ _ _
  have B0 : Hid (Below w.heap.size w W0) := by rw [hW0]; exact balCn (Below.refl _ _) _
  have K1 := hid (sList a1 n1 c1 t1 hs.wo.1 hs.wo.2 W0 (h.wo.below B0.out))
  have K2 := hid (sList a2 n2 c2 t2 hs.wa.1 hs.wa.2 W0 (h.wa.below B0.out))
  have K3 := hid (sList a3 n3 c3 t3 hs.wi.1 hs.wi.2 W0 (h.wi.below B0.out))
  have K4 := hid (sIfs a4 n4 c4 o4 hs.cs.1 hs.cs.2 W0 (h.cs.below B0.out))
  have x0 := A0.cell 0
  have x1 := A0.cell 1
  have x2 := A0.cell 2
  have x3 := A0.cell 3
  have x4 := A0.cell 4
  clear h hs A0
  by_cases f1 : f = 1
  · subst f1
    go_enter Tryz.func34, Tryz.ntmps34
    go_wp2_with fail
    rw [← hW0]
    clear hW0
    by_cases p1 : lsP n1 t1
    · rw [pb_t p1] at K1
      refine K1.out.mono ?_
      rintro e w2 ⟨rfl, rfl⟩
      go_wp2_with fail
      by_cases p2 : lsP n2 t2
      · rw [pb_t p2] at K2
        refine K2.out.mono ?_
        rintro e w2 ⟨rfl, rfl⟩
        go_wp2_with fail
        by_cases p3 : lsP n3 t3
        · rw [pb_t p3] at K3
          refine K3.out.mono ?_
          rintro e w2 ⟨rfl, rfl⟩
          go_wp2_with fail
          by_cases p4 : isP n4 o4
          · rw [pb_t p4] at K4
            have N : Hid (pb (stP ⟨1, ⟨a1, n1, c1, t1⟩, ⟨a2, n2, c2, t2⟩, ⟨a3, n3, c3, t3⟩, ⟨a4, n4, c4, o4⟩⟩) = true) := pb_t ⟨.inl rfl, p1, p2, p3, p4⟩
            refine K4.out.mono ?_
            rintro e w3 ⟨rfl, hb3⟩
            have B3 := hid (B0.out.trans (hb3.mono B0.out.size))
            clear hb3
            go_wp2
            go_ret
            exact ⟨by rw [N.out]; rfl, B3.out⟩
          · rw [pb_f p4] at K4
            have N : Hid (pb (stP ⟨1, ⟨a1, n1, c1, t1⟩, ⟨a2, n2, c2, t2⟩, ⟨a3, n3, c3, t3⟩, ⟨a4, n4, c4, o4⟩⟩) = false) := pb_f fun hh => p4 hh.2.2.2.2
            refine K4.out.mono ?_
            rintro e w3 ⟨rfl, hb3⟩
            have B3 := hid (B0.out.trans (hb3.mono B0.out.size))
            clear hb3
            go_wp2
            go_ret
            exact ⟨by rw [N.out]; rfl, B3.out⟩
        · rw [pb_f p3] at K3
          have N : Hid (pb (stP ⟨1, ⟨a1, n1, c1, t1⟩, ⟨a2, n2, c2, t2⟩, ⟨a3, n3, c3, t3⟩, ⟨a4, n4, c4, o4⟩⟩) = false) := pb_f fun hh => p3 hh.2.2.2.1
          refine K3.out.mono ?_
          rintro e w2 ⟨rfl, rfl⟩
          go_wp2
          go_ret
          exact ⟨by rw [N.out]; rfl, B0.out⟩
      · rw [pb_f p2] at K2
        have N : Hid (pb (stP ⟨1, ⟨a1, n1, c1, t1⟩, ⟨a2, n2, c2, t2⟩, ⟨a3, n3, c3, t3⟩, ⟨a4, n4, c4, o4⟩⟩) = false) := pb_f fun hh => p2 hh.2.2.1
        refine K2.out.mono ?_
        rintro e w2 ⟨rfl, rfl⟩
        go_wp2
        go_ret
        exact ⟨by rw [N.out]; rfl, B0.out⟩
    · rw [pb_f p1] at K1
      have N : Hid (pb (stP ⟨1, ⟨a1, n1, c1, t1⟩, ⟨a2, n2, c2, t2⟩, ⟨a3, n3, c3, t3⟩, ⟨a4, n4, c4, o4⟩⟩) = false) := pb_f fun hh => p1 hh.2.1
      refine K1.out.mono ?_
      rintro e w2 ⟨rfl, rfl⟩
      go_wp2
      go_ret
      exact ⟨by rw [N.out]; rfl, B0.out⟩
  by_cases f2 : f = 2
  · subst f2
    go_enter Tryz.func34, Tryz.ntmps34
    go_wp2_with fail
    rw [← hW0]
    clear hW0
    by_cases p1 : lsP n1 t1
    · rw [pb_t p1] at K1
      refine K1.out.mono ?_
      rintro e w2 ⟨rfl, rfl⟩
      go_wp2_with fail
      by_cases p2 : lsP n2 t2
      · rw [pb_t p2] at K2
        refine K2.out.mono ?_
        rintro e w2 ⟨rfl, rfl⟩
        go_wp2_with fail
        by_cases p3 : lsP n3 t3
        · rw [pb_t p3] at K3
          refine K3.out.mono ?_
          rintro e w2 ⟨rfl, rfl⟩
          go_wp2_with fail
          by_cases p4 : isP n4 o4
          · rw [pb_t p4] at K4
            have N : Hid (pb (stP ⟨2, ⟨a1, n1, c1, t1⟩, ⟨a2, n2, c2, t2⟩, ⟨a3, n3, c3, t3⟩, ⟨a4, n4, c4, o4⟩⟩) = true) := pb_t ⟨.inr rfl, p1, p2, p3, p4⟩
            refine K4.out.mono ?_
            rintro e w3 ⟨rfl, hb3⟩
            have B3 := hid (B0.out.trans (hb3.mono B0.out.size))
            clear hb3
            go_wp2
            go_ret
            exact ⟨by rw [N.out]; rfl, B3.out⟩
          · rw [pb_f p4] at K4
            have N : Hid (pb (stP ⟨2, ⟨a1, n1, c1, t1⟩, ⟨a2, n2, c2, t2⟩, ⟨a3, n3, c3, t3⟩, ⟨a4, n4, c4, o4⟩⟩) = false) := pb_f fun hh => p4 hh.2.2.2.2
            refine K4.out.mono ?_
            rintro e w3 ⟨rfl, hb3⟩
            have B3 := hid (B0.out.trans (hb3.mono B0.out.size))
            clear hb3
            go_wp2
            go_ret
            exact ⟨by rw [N.out]; rfl, B3.out⟩
        · rw [pb_f p3] at K3
          have N : Hid (pb (stP ⟨2, ⟨a1, n1, c1, t1⟩, ⟨a2, n2, c2, t2⟩, ⟨a3, n3, c3, t3⟩, ⟨a4, n4, c4, o4⟩⟩) = false) := pb_f fun hh => p3 hh.2.2.2.1
          refine K3.out.mono ?_
          rintro e w2 ⟨rfl, rfl⟩
          go_wp2
          go_ret
          exact ⟨by rw [N.out]; rfl, B0.out⟩
      · rw [pb_f p2] at K2
        have N : Hid (pb (stP ⟨2, ⟨a1, n1, c1, t1⟩, ⟨a2, n2, c2, t2⟩, ⟨a3, n3, c3, t3⟩, ⟨a4, n4, c4, o4⟩⟩) = false) := pb_f fun hh => p2 hh.2.2.1
        refine K2.out.mono ?_
        rintro e w2 ⟨rfl, rfl⟩
        go_wp2
        go_ret
        exact ⟨by rw [N.out]; rfl, B0.out⟩
    · rw [pb_f p1] at K1
      have N : Hid (pb (stP ⟨2, ⟨a1, n1, c1, t1⟩, ⟨a2, n2, c2, t2⟩, ⟨a3, n3, c3, t3⟩, ⟨a4, n4, c4, o4⟩⟩) = false) := pb_f fun hh => p1 hh.2.1
      refine K1.out.mono ?_
      rintro e w2 ⟨rfl, rfl⟩
      go_wp2
      go_ret
      exact ⟨by rw [N.out]; rfl, B0.out⟩
  have N : Hid (pb (stP ⟨f, ⟨a1, n1, c1, t1⟩, ⟨a2, n2, c2, t2⟩, ⟨a3, n3, c3, t3⟩, ⟨a4, n4, c4, o4⟩⟩) = false) := pb_f fun hh => by rcases hh.1 with h1 | h1 <;> contradiction
  have b1 : (f == 1) = false := beq_eq_false_iff_ne.2 f1
  have b2 : (f == 2) = false := beq_eq_false_iff_ne.2 f2
  have B1 := B0
  rw [hW0] at B1
  clear K1 K2 K3 K4
  go_enter Tryz.func34, Tryz.ntmps34
  go_wp2
  go_ret
  exact ⟨by rw [N.out]; rfl, B1.out⟩
set_option maxRecDepth 20000 in
set_option maxHeartbeats 4000000 in
theorem sPolF (a : Option Addr) (m cap : Nat) (R : Nat → St) (hm : m ≤ 1048576) (hs : ∀ k, k < m → StB (R k) 1048576) (w : World) (h : Sts w a m cap R) :
    Calls Tryz.prog 10 #[.slice a m cap] w fun e w' => e = .returned (.int .i64 (plV m R)) ∧ Below w.heap.size w w' := by
  have HH := hid h
  have HS := hid hs
  clear h hs
  by_cases h50 : 50 < m
  · have d1 : (50 : Int) < (m : Int) := by omega
    have N : Hid (plV m R = 1) := by show _ = _; unfold plV; rw [pb_f (fun hh => by have := hh.1; omega)]; rfl
    go_enter Tryz.func10, Tryz.ntmps10
    go_wp2
    go_ret
    exact ⟨by rw [N.out]; rfl, Below.refl _ _⟩
  have d1 : ¬ (50 : Int) < (m : Int) := by omega
  go_enter Tryz.func10, Tryz.ntmps10
  go_wp2
  go_loopw [3] (fun v wr => ∃ k : Nat, k ≤ m ∧ v = .int .i64 (k : Int) ∧ (∀ i, i < k → stP (R i) ∧ (R i).cs.n ≤ 10) ∧ Below w.heap.size w wr) (fun v _ => m - (intOf v).toNat)
  case atStart => exact ⟨0, Nat.zero_le _, rfl, fun i hi => absurd hi (Nat.not_lt_zero _), Below.refl _ _⟩
  case round =>
    obtain ⟨k, hk, rfl, hr, hB⟩ := hrel
    have HR := hid hr
    have HB := hid hB
    clear hr hB
    by_cases hlt : k < m
    · have d3 : (k : Int) < (m : Int) := by omega
      have k0 : (0 : Int) ≤ (k : Int) := by omega
      rcases (HH.out.below HB.out).2.1 with h00 | ⟨b, off, rfl, hbl, hc⟩
      · omega
      obtain ⟨x0, x1, x2, x3, x4⟩ := hc k hlt
      have K := hid (sRight (R k) (HS.out k hlt) wr ((HH.out.below HB.out).2.2 k hlt))
      have FA : Hid (¬ (stP (R k) ∧ (R k).cs.n ≤ 10) → plV m R = 1) := fun hh => by unfold plV; rw [pb_f (fun hi => hh (hi.2 k hlt))]; rfl
      have TR : Hid ((stP (R k) ∧ (R k).cs.n ≤ 10) → ∀ i, i < k + 1 → stP (R i) ∧ (R i).cs.n ≤ 10) := fun hh i hi => by
        by_cases e : i = k
        · subst e; exact hh
        · exact HR.out i (by omega)
      clear hc
      have nb := (HS.out k hlt).cs.1
      generalize R k = T at x0 x1 x2 x3 x4 K FA TR nb
      by_cases p1 : stP T
      · rw [pb_t p1] at K
        have FA2 : Hid (¬ T.cs.n ≤ 10 → plV m R = 1) := fun hh => FA.out (fun h2 => hh h2.2)
        have TR2 : Hid (T.cs.n ≤ 10 → ∀ i, i < k + 1 → stP (R i) ∧ (R i).cs.n ≤ 10) := fun hh => TR.out ⟨p1, hh⟩
        clear FA TR p1
        obtain ⟨f, ⟨a1, n1, c1, t1⟩, ⟨a2, n2, c2, t2⟩, ⟨a3, n3, c3, t3⟩, ⟨a4, n4, c4, o4⟩⟩ := T
        dsimp only at x0 x1 x2 x3 x4 K FA2 TR2 nb
        go_wp2_with fail
        refine K.out.mono ?_
        rintro e w2 ⟨rfl, hb2⟩
        have y4 := (hb2.cell (p := ⟨b, off + k * 5 + 4, none⟩) hbl).trans x4
        have B2 := hid (HB.out.trans (hb2.mono HB.out.size))
        clear hb2 HB x0 x1 x2 x3 x4 K
        by_cases n10 : n4 ≤ 10
        · have d4 : ¬ (10 : Int) < (n4 : Int) := by omega
          have N := hid (TR2.out n10)
          go_wp2
          go_roundw
          case rel => exact ⟨k + 1, by omega, by go_num, N.out, B2.out⟩
          case measure => simp [intOf]; omega
        · have d4 : (10 : Int) < (n4 : Int) := by omega
          have N := hid (FA2.out n10)
          go_wp2
          go_ret
          exact ⟨by rw [N.out]; rfl, B2.out⟩
      · rw [pb_f p1] at K
        have N := hid (FA.out (fun hh => p1 hh.1))
        clear FA TR p1
        obtain ⟨f, ⟨a1, n1, c1, t1⟩, ⟨a2, n2, c2, t2⟩, ⟨a3, n3, c3, t3⟩, ⟨a4, n4, c4, o4⟩⟩ := T
        dsimp only at x0 x1 x2 x3 x4 K
        go_wp2_with fail
        refine K.out.mono ?_
        rintro e w2 ⟨rfl, hb2⟩
        have B2 := hid (HB.out.trans (hb2.mono HB.out.size))
        clear hb2 HB x0 x1 x2 x3 x4 K
        go_wp2
        go_ret
        exact ⟨by rw [N.out]; rfl, B2.out⟩
    · have d3 : ¬ (k : Int) < (m : Int) := by omega
      have N : Hid (plV m R = 0) := by show _ = _; unfold plV; rw [pb_t ⟨by omega, fun i hi => HR.out i (by omega)⟩]; rfl
      go_wp2
      go_ret
      exact ⟨by rw [N.out]; rfl, HB.out⟩
end Go.Proofs.YtmjolkagkeonfaaGreatDoor
namespace Go.Proofs.YtmjolkagkeonfaaGreatDoor
open Go.RowKit
set_option linter.unusedVariables false
/-! The specification's l09Line. -/
theorem cdsS_snoc (a b : ByteArray) : ∀ (n : Nat) (u : List ByteArray), u.length = 2 * n → cdsS (u ++ [a, b]) = cdsS u ++ [cdS a b] ∧ (cdsS u).length = n
  | 0, u, h => by
    have : u = [] := List.eq_nil_of_length_eq_zero (by omega)
    subst this
    exact ⟨rfl, rfl⟩
  | n + 1, u, h => by
    match u, h with
    | [], h => simp at h
    | [_], h => simp at h; omega
    | x :: y :: r, h =>
      have q := cdsS_snoc a b n r (by simp at h; omega)
      refine ⟨?_, ?_⟩
      · show cdS x y :: cdsS (r ++ [a, b]) = _
        rw [q.1]
        rfl
      · show (cdS x y :: cdsS r).length = _
        rw [List.length_cons, q.2]
theorem take_two {ws : List ByteArray} {j : Nat} (h : 7 + 2 * j + 1 < ws.length) : (ws.drop 7).take (2 * (j + 1)) = (ws.drop 7).take (2 * j) ++ [atB ws (7 + 2 * j), atB ws (7 + 2 * j + 1)] := by
  rw [show 2 * (j + 1) = 2 * j + 1 + 1 by omega, List.take_add_one, List.take_add_one, List.getElem?_drop, List.getElem?_drop, atB_get (by omega), atB_get (by omega)]
  simp [Nat.add_assoc]
theorem cdsS_take {ws : List ByteArray} {j : Nat} (h : 7 + 2 * j + 1 < ws.length) : cdsS ((ws.drop 7).take (2 * (j + 1))) = cdsS ((ws.drop 7).take (2 * j)) ++ [cdS (atB ws (7 + 2 * j)) (atB ws (7 + 2 * j + 1))] := by
  rw [take_two h]
  exact (cdsS_snoc _ _ j _ (by rw [List.length_take, List.length_drop]; omega)).1
theorem cdS_sz {a b : ByteArray} (h : b.size ≤ 1048576) : (cdS a b).tx.size ≤ 1048576 := by
  unfold cdS
  split
  · exact h
  split
  · exact h
  split
  · exact Nat.zero_le _
  split <;> exact Nat.zero_le _
theorem cdsS_B : ∀ (w : List ByteArray), (∀ x ∈ w, x.size ≤ 1048576) → (cdsS w).length ≤ w.length ∧ ∀ c ∈ cdsS w, c.tx.size ≤ 1048576
  | [], _ => ⟨Nat.le_refl _, fun c hc => by cases hc⟩
  | [_], _ => ⟨Nat.zero_le _, fun c hc => by cases hc⟩
  | a :: b :: r, h => by
    have q := cdsS_B r fun x hx => h x (by simp [hx])
    refine ⟨?_, fun c hc => ?_⟩
    · show (cdS a b :: cdsS r).length ≤ _
      simp only [List.length_cons]
      omega
    · rcases List.mem_cons.1 hc with rfl | hc
      · exact cdS_sz (h b (by simp))
      · exact q.2 c hc
theorem sS_B {ws : List ByteArray} (hw : ws.length ≤ 1000001 ∧ ∀ x ∈ ws, x.size ≤ 1000000) (h7 : 7 ≤ ws.length) : psB (sS ws) := by
  have hz : ∀ i, i < ws.length → (atB ws i).size ≤ 1000000 := fun i hi => hw.2 _ (atB_mem hi)
  have q := cdsS_B (ws.drop 7) fun x hx => by have := hw.2 x (List.mem_of_mem_drop hx); omega
  rw [List.length_drop] at q
  exact ⟨splB_B 44 (hz 2 (by omega)), splB_B 44 (hz 4 (by omega)), splB_B 44 (hz 6 (by omega)), by unfold sS; dsimp only; omega, q.2⟩
/-- while a line is read: w0 is the world at its beginning -/
structure Sk (w0 w : World) (cs : Array Value) : Prop where
  bw : Below w0.heap.size w0 w
  r0 : RowAt w w0.heap.size 73 #[.int .i64 0, .slice none 0 0, .slice none 0 0, .slice none 0 0, .slice none 0 0]
  r1 : RowAt w (w0.heap.size + 1) 73 cs
theorem Sk.below {w0 w w' : World} {cs : Array Value} (h : Sk w0 w cs) (hb : Below w.heap.size w w') : Sk w0 w' cs := ⟨h.bw.trans (hb.mono h.bw.size), h.r0.below hb h.r0.lt, h.r1.below hb h.r1.lt⟩
theorem Sk.set {w0 w : World} {cs : Array Value} (h : Sk w0 w cs) (i : Nat) (v : Value) : Sk w0 (w.setCell ⟨w0.heap.size + 1, i, none⟩ v) (cs.setIfInBounds i v) :=
  ⟨h.bw.setCell (by dsimp only; omega) _, h.r0.other _ _ (by dsimp only; omega), h.r1.set i v⟩
theorem Sk.far {w0 w w' : World} {cs : Array Value} (h : Sk w0 w cs) {r : Option Nat} (hg : w.grownBy w' r) (hr : ∀ x, r = some x → w0.heap.size + 2 ≤ x) : Sk w0 w' cs :=
  ⟨h.bw.grown hg h.bw.size (fun y hy => by have := hr y hy; omega), (hg.block _ h.r0.lt (fun e => by have := hr _ e.symm; omega)).trans h.r0, (hg.block _ h.r1.lt (fun e => by have := hr _ e.symm; omega)).trans h.r1⟩
def LnO (w : World) (ws : List ByteArray) (e : Ending) (w' : World) : Prop :=
  (∃ s : St, e = .returned (.tuple #[.agg #[.int .i64 s.ef, .slice s.wo.ad s.wo.n s.wo.cap, .slice s.wa.ad s.wa.n s.wa.cap, .slice s.wi.ad s.wi.n s.wi.cap, .slice s.cs.ad s.cs.n s.cs.cap], .bool (pb (lnP ws))]) ∧ (lnP ws → PsAt w' w.heap.size w'.heap.size s (sS ws))) ∧ Below w.heap.size w w'
theorem ln_ret {ws : List ByteArray} {w wf : World} {s : St} {b : Bool} {tm : Array Value}
    (hR : RowAt wf w.heap.size 73 #[.int .i64 s.ef, .slice s.wo.ad s.wo.n s.wo.cap, .slice s.wa.ad s.wa.n s.wa.cap, .slice s.wi.ad s.wi.n s.wi.cap, .slice s.cs.ad s.cs.n s.cs.cap]) (hb : b = pb (lnP ws)) (hP : lnP ws → PsAt wf w.heap.size wf.heap.size s (sS ws)) (hB : Below w.heap.size w wf)
    (h2 : tm.getD 2 undef = .pointer (some ⟨w.heap.size, 0, none⟩)) (h3 : tm.getD 3 undef = .bool b) :
    bodyPost Tryz.prog Tryz.f43 (fun e w' => LnO w ws e w') Exit.ret { tmps := tm, defers := [] } wf := by
  have h2' : tm[2]?.getD undef = .pointer (some ⟨w.heap.size, 0, none⟩) := by simpa using h2
  have h3' : tm[3]?.getD undef = .bool b := by simpa using h3
  refine ⟨rfl, .tuple #[.agg #[.int .i64 s.ef, .slice s.wo.ad s.wo.n s.wo.cap, .slice s.wa.ad s.wa.n s.wa.cap, .slice s.wi.ad s.wi.n s.wi.cap, .slice s.cs.ad s.cs.n s.cs.cap], .bool b], ?_, ⟨s, by rw [hb], hP⟩, hB⟩
  have hl := run_loadVar_row (P := Tryz.prog) _ w.heap.size 73 73 _ (0, 0) _ hR Tryz.underlying73 rfl (by kernel_rfl)
  simp [results, Tryz.results43, h2', h3', asAddr, hl]
set_option maxRecDepth 20000 in
set_option maxHeartbeats 16000000 in
theorem sLine_no (ws : List ByteArray) (hws : ws.length ≤ 1000001) (hn : ¬ frmP ws) (g n c : Nat) (hl : n = ws.length) (w : World) (h : Strs w (some ⟨g, 0, none⟩) n c (atB ws)) :
    Calls Tryz.prog 43 #[.slice (some ⟨g, 0, none⟩) n c] w fun e w' => LnO w ws e w' := by
  have PF : Hid (false = pb (lnP ws)) := (pb_f (not_ln1 hn)).symm
  have PN : Hid (¬ lnP ws) := not_ln1 hn
  obtain ⟨W1, hW1⟩ : ∃ W, W = (w.alloc (.cells #[.int .i64 0, .slice none 0 0, .slice none 0 0, .slice none 0 0, .slice none 0 0] 73)).alloc (.cells #[.int .i64 0, .slice none 0 0, .slice none 0 0, .slice none 0 0, .slice none 0 0] 73) := ⟨_, rfl⟩
  have b1 : Below w.heap.size w W1 := by rw [hW1]; exact ((Below.refl _ _).alloc (Nat.le_refl _) _).alloc (by rw [size_al]; omega) _
  have S1 : Hid (Sk w W1 #[.int .i64 0, .slice none 0 0, .slice none 0 0, .slice none 0 0, .slice none 0 0]) := ⟨b1, by rw [hW1]; exact (RowAt.new _ _ _).alloc _, by rw [hW1]; exact RowAt.next _ _ _ (by rw [size_al])⟩
  have ST := hid (h.below b1)
  have x0 := S1.out.r1.cell 0
  have x1 := S1.out.r1.cell 1
  have x2 := S1.out.r1.cell 2
  have x3 := S1.out.r1.cell 3
  have x4 := S1.out.r1.cell 4
  have FIN : Hid (∀ tm : Array Value, tm.getD 2 undef = .pointer (some ⟨w.heap.size, 0, none⟩) → tm.getD 3 undef = .bool false → bodyPost Tryz.prog Tryz.f43 (fun e w' => LnO w ws e w') Exit.ret { tmps := tm, defers := [] } (W1.setRow w.heap.size #[.int .i64 0, .slice none 0 0, .slice none 0 0, .slice none 0 0, .slice none 0 0])) := fun tm h2 h3 =>
    ln_ret (s := st0) (S1.out.r0.setRow _) PF.out (fun q => absurd q PN.out) (below_setRow S1.out.bw _ _ (Nat.le_refl _)) h2 h3
  have cw : ∀ i, i < n → W1.cell? ⟨g, i, none⟩ = some (.string (atB ws i)) := fun i hi => by
    rcases ST.out.2 with q | ⟨b', off, e, _, hc⟩
    · omega
    · cases e
      have := hc i hi
      rwa [Nat.zero_add] at this
  have CW := hid cw
  clear h b1 cw
  unfold frmP at hn
  by_cases h7 : n < 7
  · have d0 : (n : Int) < 7 := by omega
    clear hn
    go_enter Tryz.func43, Tryz.ntmps43
    go_upto_region 2 with fail
    rw [← hW1]
    clear hW1
    go_wp2_with (refine wpList_store_row rfl 73 (.tmp 2) (.tmp 35) rfl w.heap.size #[.int .i64 0, .slice none 0 0, .slice none 0 0, .slice none 0 0, .slice none 0 0] rfl rfl _ _ S1.out.r0 (by kernel_rfl) rfl (by simp [Value.oneCell']) ?_)
    exact FIN.out _ rfl rfl
  have d0 : ¬ (n : Int) < 7 := by omega
  by_cases h2 : n % 2 = 0
  · have d1 : ((n : Int).tmod 2 == 0) = true := by rw [beq_iff_eq, Int.tmod_eq_emod_of_nonneg (by omega)]; omega
    have d1' : (n : Int) % 2 = 0 := by omega
    clear hn
    go_enter Tryz.func43, Tryz.ntmps43
    go_upto_region 2 with fail
    rw [← hW1]
    clear hW1
    go_wp2_with (refine wpList_store_row rfl 73 (.tmp 2) (.tmp 35) rfl w.heap.size #[.int .i64 0, .slice none 0 0, .slice none 0 0, .slice none 0 0, .slice none 0 0] rfl rfl _ _ S1.out.r0 (by kernel_rfl) rfl (by simp [Value.oneCell']) ?_)
    exact FIN.out _ rfl rfl
  have d1 : ((n : Int).tmod 2 == 0) = false := by rw [beq_eq_false_iff_ne, Int.tmod_eq_emod_of_nonneg (by omega)]; omega
  have d1' : ¬ (n : Int) % 2 = 0 := by omega
  obtain ⟨t1, ht1⟩ : ∃ x, x = atB ws 1 := ⟨_, rfl⟩
  obtain ⟨t3, ht3⟩ : ∃ x, x = atB ws 3 := ⟨_, rfl⟩
  obtain ⟨t5, ht5⟩ : ∃ x, x = atB ws 5 := ⟨_, rfl⟩
  have e1 := CW.out 1 (by omega)
  have e3 := CW.out 3 (by omega)
  have e5 := CW.out 5 (by omega)
  rw [← ht1] at e1 hn
  rw [← ht3] at e3 hn
  rw [← ht5] at e5 hn
  clear ht1 ht3 ht5
  have g1 : (1 : Int) < (n : Int) := by omega
  have g3 : (3 : Int) < (n : Int) := by omega
  have g5 : (5 : Int) < (n : Int) := by omega
  by_cases q1 : isW t1 kWho
  case neg =>
    have b1 : (t1.toList == [119, 104, 111]) = false := eqW_f q1
    clear hn q1
    go_enter Tryz.func43, Tryz.ntmps43
    go_upto_region 2 with fail
    rw [← hW1]
    clear hW1
    go_wp2_with (refine wpList_store_row rfl 73 (.tmp 2) (.tmp 35) rfl w.heap.size #[.int .i64 0, .slice none 0 0, .slice none 0 0, .slice none 0 0, .slice none 0 0] rfl rfl _ _ S1.out.r0 (by kernel_rfl) rfl (by simp [Value.oneCell']) ?_)
    exact FIN.out _ rfl rfl
  have b1 : (t1.toList == [119, 104, 111]) = true := eqW_t q1
  by_cases q3 : isW t3 kDo
  case neg =>
    have b3 : (t3.toList == [100, 111]) = false := eqW_f q3
    clear hn q1 q3
    go_enter Tryz.func43, Tryz.ntmps43
    go_upto_region 2 with fail
    rw [← hW1]
    clear hW1
    go_wp2_with (refine wpList_store_row rfl 73 (.tmp 2) (.tmp 35) rfl w.heap.size #[.int .i64 0, .slice none 0 0, .slice none 0 0, .slice none 0 0, .slice none 0 0] rfl rfl _ _ S1.out.r0 (by kernel_rfl) rfl (by simp [Value.oneCell']) ?_)
    exact FIN.out _ rfl rfl
  have b3 : (t3.toList == [100, 111]) = true := eqW_t q3
  have q5 : ¬ isW t5 kOn := fun z => hn ⟨by omega, by omega, q1, q3, z⟩
  have b5 : (t5.toList == [111, 110]) = false := eqW_f q5
  clear hn q1 q3 q5
  go_enter Tryz.func43, Tryz.ntmps43
  go_upto_region 2 with fail
  rw [← hW1]
  clear hW1
  go_wp2_with (refine wpList_store_row rfl 73 (.tmp 2) (.tmp 35) rfl w.heap.size #[.int .i64 0, .slice none 0 0, .slice none 0 0, .slice none 0 0, .slice none 0 0] rfl rfl _ _ S1.out.r0 (by kernel_rfl) rfl (by simp [Value.oneCell']) ?_)
  exact FIN.out _ rfl rfl
end Go.Proofs.YtmjolkagkeonfaaGreatDoor
