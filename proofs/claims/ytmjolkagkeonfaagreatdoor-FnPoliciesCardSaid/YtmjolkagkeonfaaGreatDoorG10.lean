import Derived.Test.YtmjolkagkeonfaaGreatDoorIPol3
import Derived.Test.YtmjolkagkeonfaaGreatDoorG8
import Derived.Test.YtmjolkagkeonfaaGreatDoorG7
import Derived.Test.YtmjolkagkeonfaaGreatDoorG4
import Derived.Test.YtmjolkagkeonfaaGreatDoorG6
import Derived.Laws.AppendOwnNone
namespace Go.Proofs.YtmjolkagkeonfaaGreatDoor
open Go.RowKit
/-! The program's statementFits. -/
theorem bdN {n : Nat} {w w' : World} (h : Below n w w') (k : Nat) : Below n w (w'.drewN k) := ⟨h.1, h.2, h.3, h.4, h.5⟩
set_option maxRecDepth 20000 in
set_option maxHeartbeats 2000000 in
theorem iCF0 (kd : Int) (tx : ByteArray) (tm : Int) (h1 : ¬ kd = 1) (h2 : ¬ kd = 2) (h3 : ¬ kd = 3) (h4 : ¬ kd = 4) (w : World) :
    Calls Tryz.prog 139 #[.agg #[.int .i64 kd, .string tx, .int .i64 tm]] w fun e w' => e = .returned (.bool (pb (cnP ⟨kd, tx, tm⟩))) ∧ Below w.heap.size w w' := by
  have N : Hid (pb (cnP ⟨kd, tx, tm⟩) = false) := pb_f (cnP_o h1 h2 h3 h4)
  have K := hid (iCond0 kd tx tm h1 h2 h3 h4)
  clear h1 h2 h3 h4
  go_enter Tryz.func139, Tryz.ntmps139
  go_wp2_with fail
  refine (K.out _).mono ?_
  rintro e w2 ⟨rfl, rfl⟩
  go_wp2_with fail
  go_quiet (fail)
  go_wp2
  go_ret
  exact ⟨by rw [N.out]; rfl, bdN (balCn (balCn (Below.refl _ _) _) _) _⟩
theorem iCF (c : Cn) (ht : c.tx.size ≤ 1048576) (w : World) :
    Calls Tryz.prog 139 #[.agg #[.int .i64 c.kd, .string c.tx, .int .i64 c.tm]] w fun e w' => e = .returned (.bool (pb (cnP c))) ∧ Below w.heap.size w w' := by
  obtain ⟨kd, tx, tm⟩ := c
  dsimp only at ht ⊢
  by_cases h1 : kd = 1
  · subst h1; exact iCF1 tx tm ht w
  by_cases h2 : kd = 2
  · subst h2; exact iCF2 tx tm ht w
  by_cases h3 : kd = 3
  · subst h3; exact iCF3 tx tm ht w
  by_cases h4 : kd = 4
  · subst h4; exact iCF4 tx tm ht w
  exact iCF0 kd tx tm h1 h2 h3 h4 w
set_option maxRecDepth 20000 in
set_option maxHeartbeats 4000000 in
theorem iStF (s : St) (hs : StB s 1048576) (w : World) (h : StIn w s) :
    Calls Tryz.prog 109 #[.agg #[.int .i64 s.ef, .slice s.wo.ad s.wo.n s.wo.cap, .slice s.wa.ad s.wa.n s.wa.cap, .slice s.wi.ad s.wi.n s.wi.cap, .slice s.cs.ad s.cs.n s.cs.cap]] w fun e w' => e = .returned (.bool (pb (stP s))) ∧ Below w.heap.size w w' := by
  obtain ⟨f, ⟨a1, n1, c1, t1⟩, ⟨a2, n2, c2, t2⟩, ⟨a3, n3, c3, t3⟩, ⟨a4, n4, c4, o4⟩⟩ := s
  dsimp only
  obtain ⟨W0, hW0⟩ : ∃ W, W = w.alloc (.cells #[.int .i64 f, .slice a1 n1 c1, .slice a2 n2 c2, .slice a3 n3 c3, .slice a4 n4 c4] 73) := ⟨_, rfl⟩
  have A0 : RowAt W0 w.heap.size 73 #[.int .i64 f, .slice a1 n1 c1, .slice a2 n2 c2, .slice a3 n3 c3, .slice a4 n4 c4] := by rw [hW0]; exact RowAt.new _ _ _
  have B0 : Hid (Below w.heap.size w W0) := by rw [hW0]; exact balCn (Below.refl _ _) _
  have K1 := hid (iList a1 n1 c1 t1 hs.wo.1 hs.wo.2 W0 (h.wo.below B0.out))
  have K2 := hid (iList a2 n2 c2 t2 hs.wa.1 hs.wa.2 W0 (h.wa.below B0.out))
  have K3 := hid (iList a3 n3 c3 t3 hs.wi.1 hs.wi.2 W0 (h.wi.below B0.out))
  have HC := hid (h.cs.below B0.out)
  have HT := hid hs.cs.2
  have hn4 : n4 ≤ 1048576 := hs.cs.1
  dsimp only at HC HT
  have x0 := A0.cell 0
  have x1 := A0.cell 1
  have x2 := A0.cell 2
  have x3 := A0.cell 3
  have x4 := A0.cell 4
  clear h hs A0
  by_cases f1 : f = 1
  · subst f1
    go_enter Tryz.func109, Tryz.ntmps109
    go_wp2_with fail
    rw [← hW0]
    clear hW0
    by_cases p1 : lsP n1 t1
    · rw [pb_t p1] at K1
      refine K1.out.mono ?_
      rintro e w2 ⟨rfl, hh2⟩
      obtain rfl := hh2.symm
      go_wp2_with fail
      by_cases p2 : lsP n2 t2
      · rw [pb_t p2] at K2
        refine K2.out.mono ?_
        rintro e w2 ⟨rfl, hh2⟩
        obtain rfl := hh2.symm
        go_wp2_with fail
        by_cases p3 : lsP n3 t3
        · rw [pb_t p3] at K3
          refine K3.out.mono ?_
          rintro e w2 ⟨rfl, hh2⟩
          obtain rfl := hh2.symm
          obtain ⟨TV, hTV⟩ : ∃ v, v = pb (stP ⟨1, ⟨a1, n1, c1, t1⟩, ⟨a2, n2, c2, t2⟩, ⟨a3, n3, c3, t3⟩, ⟨a4, n4, c4, o4⟩⟩) := ⟨_, rfl⟩
          have PF : Hid (isP n4 o4 → TV = true) := fun h4 => by rw [hTV]; exact pb_t ⟨.inl rfl, p1, p2, p3, h4⟩
          have NF : Hid (¬ isP n4 o4 → TV = false) := fun h4 => by rw [hTV]; exact pb_f fun hh => h4 hh.2.2.2.2
          have HTV := hid hTV
          clear hTV
          clear p1 p2 p3 K1 K2 K3
          go_wp2_with fail
          go_loopw [32] (fun v wr => ∃ k : Nat, k ≤ n4 ∧ v = .int .i64 (k : Int) ∧ (∀ i, i < k → cnP (o4 i)) ∧ Below w.heap.size w wr ∧ Below W0.heap.size W0 wr) (fun v _ => n4 - (intOf v).toNat)
          case atStart => exact ⟨0, Nat.zero_le _, rfl, fun i hi => absurd hi (Nat.not_lt_zero _), B0.out, Below.refl _ _⟩
          case round =>
            obtain ⟨k, hk, rfl, hr, hB, hB'⟩ := hrel
            have HR := hid hr
            have HB := hid hB
            have HB' := hid hB'
            clear hr hB hB'
            by_cases hlt : k < n4
            · have d3 : (k : Int) < (n4 : Int) := by omega
              have k0 : (0 : Int) ≤ (k : Int) := by omega
              rcases (HC.out.below HB'.out).2 with h00 | ⟨b, off, rfl, hbl, hc⟩
              · omega
              obtain ⟨y0, y1, y2⟩ := hc k hlt
              have st := HT.out k hlt
              have FA : Hid (¬ cnP (o4 k) → TV = false) := fun hh => NF.out fun hi => hh (hi k hlt)
              have TR : Hid (cnP (o4 k) → ∀ i, i < k + 1 → cnP (o4 i)) := fun hh i hi => by
                by_cases e : i = k
                · subst e; exact hh
                · exact HR.out i (by omega)
              have KC := fun w => hid (iCF (o4 k) st w)
              generalize o4 k = C at y0 y1 y2 st FA TR KC
              obtain ⟨kd, tx, tm⟩ := C
              dsimp only at y0 y1 y2 st KC
              obtain ⟨W2, hW2⟩ : ∃ W, W = wr.alloc (.cells #[.int .i64 kd, .string tx, .int .i64 tm] 83) := ⟨_, rfl⟩
              have B2 : Hid (Below w.heap.size w W2) := by rw [hW2]; exact HB.out.alloc HB.out.size _
              have B2' : Hid (Below W0.heap.size W0 W2) := by rw [hW2]; exact HB'.out.alloc HB'.out.size _
              clear hc
              by_cases q : cnP ⟨kd, tx, tm⟩
              · have N := hid (TR.out q)
                have hp := pb_t q
                simp only [hp] at KC
                clear q hp FA TR
                go_wp2_with fail
                rw [← hW2]
                clear hW2
                refine (KC _).out.mono ?_
                rintro e w3 ⟨rfl, hb3⟩
                have B3 := hid (B2.out.trans (hb3.mono B2.out.size))
                have B3' := hid (B2'.out.trans (hb3.mono B2'.out.size))
                clear hb3 y0 y1 y2
                go_wp2
                go_roundw
                case rel => exact ⟨k + 1, by omega, by go_num, N.out, B3.out, B3'.out⟩
                case measure => simp [intOf]; omega
              · have N := hid (FA.out q)
                have hp := pb_f q
                simp only [hp] at KC
                clear q hp FA TR
                go_wp2_with fail
                rw [← hW2]
                clear hW2
                refine (KC _).out.mono ?_
                rintro e w3 ⟨rfl, hb3⟩
                have B3 := hid (B2.out.trans (hb3.mono B2.out.size))
                clear hb3 y0 y1 y2
                go_wp2
                go_ret
                exact ⟨by rw [← HTV.out, N.out]; rfl, B3.out⟩
            · have d3 : ¬ (k : Int) < (n4 : Int) := by omega
              have N := hid (PF.out fun i hi => HR.out i (by omega))
              go_wp2
              go_ret
              exact ⟨by rw [← HTV.out, N.out]; rfl, HB.out⟩
        · rw [pb_f p3] at K3
          have N : Hid (pb (stP ⟨1, ⟨a1, n1, c1, t1⟩, ⟨a2, n2, c2, t2⟩, ⟨a3, n3, c3, t3⟩, ⟨a4, n4, c4, o4⟩⟩) = false) := pb_f fun hh => p3 hh.2.2.2.1
          refine K3.out.mono ?_
          rintro e w2 ⟨rfl, hh2⟩
          obtain rfl := hh2.symm
          go_wp2
          go_ret
          exact ⟨by rw [N.out]; rfl, B0.out⟩
      · rw [pb_f p2] at K2
        have N : Hid (pb (stP ⟨1, ⟨a1, n1, c1, t1⟩, ⟨a2, n2, c2, t2⟩, ⟨a3, n3, c3, t3⟩, ⟨a4, n4, c4, o4⟩⟩) = false) := pb_f fun hh => p2 hh.2.2.1
        refine K2.out.mono ?_
        rintro e w2 ⟨rfl, hh2⟩
        obtain rfl := hh2.symm
        go_wp2
        go_ret
        exact ⟨by rw [N.out]; rfl, B0.out⟩
    · rw [pb_f p1] at K1
      have N : Hid (pb (stP ⟨1, ⟨a1, n1, c1, t1⟩, ⟨a2, n2, c2, t2⟩, ⟨a3, n3, c3, t3⟩, ⟨a4, n4, c4, o4⟩⟩) = false) := pb_f fun hh => p1 hh.2.1
      refine K1.out.mono ?_
      rintro e w2 ⟨rfl, hh2⟩
      obtain rfl := hh2.symm
      go_wp2
      go_ret
      exact ⟨by rw [N.out]; rfl, B0.out⟩
  by_cases f2 : f = 2
  · subst f2
    go_enter Tryz.func109, Tryz.ntmps109
    go_wp2_with fail
    rw [← hW0]
    clear hW0
    by_cases p1 : lsP n1 t1
    · rw [pb_t p1] at K1
      refine K1.out.mono ?_
      rintro e w2 ⟨rfl, hh2⟩
      obtain rfl := hh2.symm
      go_wp2_with fail
      by_cases p2 : lsP n2 t2
      · rw [pb_t p2] at K2
        refine K2.out.mono ?_
        rintro e w2 ⟨rfl, hh2⟩
        obtain rfl := hh2.symm
        go_wp2_with fail
        by_cases p3 : lsP n3 t3
        · rw [pb_t p3] at K3
          refine K3.out.mono ?_
          rintro e w2 ⟨rfl, hh2⟩
          obtain rfl := hh2.symm
          obtain ⟨TV, hTV⟩ : ∃ v, v = pb (stP ⟨2, ⟨a1, n1, c1, t1⟩, ⟨a2, n2, c2, t2⟩, ⟨a3, n3, c3, t3⟩, ⟨a4, n4, c4, o4⟩⟩) := ⟨_, rfl⟩
          have PF : Hid (isP n4 o4 → TV = true) := fun h4 => by rw [hTV]; exact pb_t ⟨.inr rfl, p1, p2, p3, h4⟩
          have NF : Hid (¬ isP n4 o4 → TV = false) := fun h4 => by rw [hTV]; exact pb_f fun hh => h4 hh.2.2.2.2
          have HTV := hid hTV
          clear hTV
          clear p1 p2 p3 K1 K2 K3
          go_wp2_with fail
          go_loopw [32] (fun v wr => ∃ k : Nat, k ≤ n4 ∧ v = .int .i64 (k : Int) ∧ (∀ i, i < k → cnP (o4 i)) ∧ Below w.heap.size w wr ∧ Below W0.heap.size W0 wr) (fun v _ => n4 - (intOf v).toNat)
          case atStart => exact ⟨0, Nat.zero_le _, rfl, fun i hi => absurd hi (Nat.not_lt_zero _), B0.out, Below.refl _ _⟩
          case round =>
            obtain ⟨k, hk, rfl, hr, hB, hB'⟩ := hrel
            have HR := hid hr
            have HB := hid hB
            have HB' := hid hB'
            clear hr hB hB'
            by_cases hlt : k < n4
            · have d3 : (k : Int) < (n4 : Int) := by omega
              have k0 : (0 : Int) ≤ (k : Int) := by omega
              rcases (HC.out.below HB'.out).2 with h00 | ⟨b, off, rfl, hbl, hc⟩
              · omega
              obtain ⟨y0, y1, y2⟩ := hc k hlt
              have st := HT.out k hlt
              have FA : Hid (¬ cnP (o4 k) → TV = false) := fun hh => NF.out fun hi => hh (hi k hlt)
              have TR : Hid (cnP (o4 k) → ∀ i, i < k + 1 → cnP (o4 i)) := fun hh i hi => by
                by_cases e : i = k
                · subst e; exact hh
                · exact HR.out i (by omega)
              have KC := fun w => hid (iCF (o4 k) st w)
              generalize o4 k = C at y0 y1 y2 st FA TR KC
              obtain ⟨kd, tx, tm⟩ := C
              dsimp only at y0 y1 y2 st KC
              obtain ⟨W2, hW2⟩ : ∃ W, W = wr.alloc (.cells #[.int .i64 kd, .string tx, .int .i64 tm] 83) := ⟨_, rfl⟩
              have B2 : Hid (Below w.heap.size w W2) := by rw [hW2]; exact HB.out.alloc HB.out.size _
              have B2' : Hid (Below W0.heap.size W0 W2) := by rw [hW2]; exact HB'.out.alloc HB'.out.size _
              clear hc
              by_cases q : cnP ⟨kd, tx, tm⟩
              · have N := hid (TR.out q)
                have hp := pb_t q
                simp only [hp] at KC
                clear q hp FA TR
                go_wp2_with fail
                rw [← hW2]
                clear hW2
                refine (KC _).out.mono ?_
                rintro e w3 ⟨rfl, hb3⟩
                have B3 := hid (B2.out.trans (hb3.mono B2.out.size))
                have B3' := hid (B2'.out.trans (hb3.mono B2'.out.size))
                clear hb3 y0 y1 y2
                go_wp2
                go_roundw
                case rel => exact ⟨k + 1, by omega, by go_num, N.out, B3.out, B3'.out⟩
                case measure => simp [intOf]; omega
              · have N := hid (FA.out q)
                have hp := pb_f q
                simp only [hp] at KC
                clear q hp FA TR
                go_wp2_with fail
                rw [← hW2]
                clear hW2
                refine (KC _).out.mono ?_
                rintro e w3 ⟨rfl, hb3⟩
                have B3 := hid (B2.out.trans (hb3.mono B2.out.size))
                clear hb3 y0 y1 y2
                go_wp2
                go_ret
                exact ⟨by rw [← HTV.out, N.out]; rfl, B3.out⟩
            · have d3 : ¬ (k : Int) < (n4 : Int) := by omega
              have N := hid (PF.out fun i hi => HR.out i (by omega))
              go_wp2
              go_ret
              exact ⟨by rw [← HTV.out, N.out]; rfl, HB.out⟩
        · rw [pb_f p3] at K3
          have N : Hid (pb (stP ⟨2, ⟨a1, n1, c1, t1⟩, ⟨a2, n2, c2, t2⟩, ⟨a3, n3, c3, t3⟩, ⟨a4, n4, c4, o4⟩⟩) = false) := pb_f fun hh => p3 hh.2.2.2.1
          refine K3.out.mono ?_
          rintro e w2 ⟨rfl, hh2⟩
          obtain rfl := hh2.symm
          go_wp2
          go_ret
          exact ⟨by rw [N.out]; rfl, B0.out⟩
      · rw [pb_f p2] at K2
        have N : Hid (pb (stP ⟨2, ⟨a1, n1, c1, t1⟩, ⟨a2, n2, c2, t2⟩, ⟨a3, n3, c3, t3⟩, ⟨a4, n4, c4, o4⟩⟩) = false) := pb_f fun hh => p2 hh.2.2.1
        refine K2.out.mono ?_
        rintro e w2 ⟨rfl, hh2⟩
        obtain rfl := hh2.symm
        go_wp2
        go_ret
        exact ⟨by rw [N.out]; rfl, B0.out⟩
    · rw [pb_f p1] at K1
      have N : Hid (pb (stP ⟨2, ⟨a1, n1, c1, t1⟩, ⟨a2, n2, c2, t2⟩, ⟨a3, n3, c3, t3⟩, ⟨a4, n4, c4, o4⟩⟩) = false) := pb_f fun hh => p1 hh.2.1
      refine K1.out.mono ?_
      rintro e w2 ⟨rfl, hh2⟩
      obtain rfl := hh2.symm
      go_wp2
      go_ret
      exact ⟨by rw [N.out]; rfl, B0.out⟩
  have N : Hid (pb (stP ⟨f, ⟨a1, n1, c1, t1⟩, ⟨a2, n2, c2, t2⟩, ⟨a3, n3, c3, t3⟩, ⟨a4, n4, c4, o4⟩⟩) = false) := pb_f fun hh => by rcases hh.1 with h1 | h1 <;> contradiction
  have b1 : (f != 1) = true := by simpa using f1
  have b2 : (f != 2) = true := by simpa using f2
  have B1 := B0
  rw [hW0] at B1
  clear K1 K2 K3
  go_enter Tryz.func109, Tryz.ntmps109
  go_wp2
  go_ret
  exact ⟨by rw [N.out]; rfl, B1.out⟩
end Go.Proofs.YtmjolkagkeonfaaGreatDoor
namespace Go.Proofs.YtmjolkagkeonfaaGreatDoor
open Go.RowKit
/-! The program's line reader. -/
/-- a fault thrown, told whole -/
def ThrownAt (e : Ending) (c l : Int) : Prop := e = .panicked [{ v := .iface 86 (.agg #[.int .i64 c, .int .i64 l]), recovered := false }]
/-- a reader b of the words ws, k of which are taken; they lie at g -/
structure Rdr (W0 w : World) (b g : Nat) (l : Int) (ws : List ByteArray) (k : Nat) : Prop where
  bw : Below W0.heap.size W0 w
  hb : W0.heap.size ≤ b
  bg : b ≠ g
  kn : k ≤ ws.length
  sz : ws.length ≤ 1048576 ∧ ∀ x ∈ ws, x.size ≤ 1048576
  row : ∃ A, RowAt w b 129 #[.int .i64 l, .slice A (ws.length - k : Nat) (ws.length - k : Nat)] ∧ (k < ws.length → A = some ⟨g, k, none⟩)
  wd : RowAt w g 9 (ws.map Value.string).toArray
theorem Rdr.below {W0 w w' : World} {b g : Nat} {l : Int} {ws : List ByteArray} {k : Nat} (h : Rdr W0 w b g l ws k) (hb : Below w.heap.size w w') : Rdr W0 w' b g l ws k := by
  obtain ⟨A, r1, r2⟩ := h.row
  exact ⟨h.bw.trans (hb.mono h.bw.size), h.hb, h.bg, h.kn, h.sz, ⟨A, r1.below hb r1.lt, r2⟩, h.wd.below hb h.wd.lt⟩
theorem Rdr.drew {W0 w : World} {b g : Nat} {l : Int} {ws : List ByteArray} {k : Nat} (h : Rdr W0 w b g l ws k) : Rdr W0 w.drew b g l ws k := by
  obtain ⟨A, r1, r2⟩ := h.row
  exact ⟨h.bw.drew, h.hb, h.bg, h.kn, h.sz, ⟨A, r1.drew, r2⟩, h.wd.drew⟩
theorem Rdr.word {W0 w : World} {b g : Nat} {l : Int} {ws : List ByteArray} {k : Nat} (h : Rdr W0 w b g l ws k) (hk : k < ws.length) : w.cell? ⟨g, k, none⟩ = some (.string (atB ws k)) := by
  rw [h.wd.cell k]
  rw [List.getElem?_toArray, List.getElem?_map, atB_get hk]
  rfl
set_option maxRecDepth 20000 in
theorem iFail (W0 : World) (b g : Nat) (l : Int) (ws : List ByteArray) (k : Nat) (w : World) (h : Rdr W0 w b g l ws k) :
    Calls Tryz.prog 143 #[.pointer (some ⟨b, 0, none⟩)] w fun e w' => ThrownAt e 3 l ∧ w' = w := by
  obtain ⟨A, r1, _⟩ := h.row
  have c0 := r1.cell 0
  clear h r1
  go_enter Tryz.func143, Tryz.ntmps143
  go_wp2
  exact ⟨rfl, rfl, rfl⟩
set_option maxRecDepth 20000 in
set_option maxHeartbeats 1000000 in
theorem iTakeW_no (W0 : World) (b g : Nat) (l : Int) (ws : List ByteArray) (w : World) (h : Rdr W0 w b g l ws ws.length) :
    Calls Tryz.prog 116 #[.pointer (some ⟨b, 0, none⟩)] w fun e w' => ThrownAt e 3 l ∧ w' = w := by
  have K := hid (iFail W0 b g l ws ws.length w h)
  obtain ⟨A, r1, _⟩ := h.row
  rw [Nat.sub_self] at r1
  have c1 := r1.cell 1
  clear h r1
  go_enter Tryz.func116, Tryz.ntmps116
  go_wp2_with fail
  refine K.out.mono ?_
  rintro e w2 ⟨hT, rfl⟩
  unfold ThrownAt at hT
  subst hT
  go_wp2
  exact ⟨rfl, rfl, rfl⟩
set_option maxRecDepth 20000 in
set_option maxHeartbeats 1000000 in
theorem iTakeW (W0 : World) (b g : Nat) (l : Int) (ws : List ByteArray) (k : Nat) (hk : k < ws.length) (w : World) (h : Rdr W0 w b g l ws k) :
    Calls Tryz.prog 116 #[.pointer (some ⟨b, 0, none⟩)] w fun e w' => e = .returned (.string (atB ws k)) ∧ Rdr W0 w' b g l ws (k + 1) ∧ w.grownBy w' (some b) := by
  have HH := hid h
  obtain ⟨A, r1, r2⟩ := h.row
  obtain rfl := r2 hk
  have cw := h.word hk
  obtain ⟨m, hm⟩ : ∃ m, ws.length - k = m + 1 := ⟨ws.length - k - 1, by omega⟩
  rw [hm] at r1
  have HM := hid hm
  have R1 := hid r1
  have c1 := r1.cell 1
  have f1 := r1.free 1
  obtain ⟨t, ht⟩ : ∃ t, t = atB ws k := ⟨_, rfl⟩
  rw [← ht] at cw
  have HT := hid ht
  have FIN : Hid (∀ A', (k + 1 < ws.length → A' = some ⟨g, k + 1, none⟩) → Rdr W0 (w.setCell ⟨b, 1, none⟩ (.slice A' m m)) b g l ws (k + 1) ∧ w.grownBy (w.setCell ⟨b, 1, none⟩ (.slice A' m m)) (some b)) := fun A' hA => by
    have e : ws.length - (k + 1) = m := by have := HM.out; omega
    exact ⟨⟨HH.out.bw.setCell HH.out.hb _, HH.out.hb, HH.out.bg, hk, HH.out.sz, ⟨A', by rw [e]; exact R1.out.set 1 _, hA⟩, HH.out.wd.other _ _ (fun e => HH.out.bg e.symm)⟩, grown_set⟩
  have hsz := hid HH.out.sz.1
  clear h r1 r2 hm ht
  rw [← HT.out]
  by_cases h0 : m = 0
  · subst h0
    have F := FIN.out
    go_enter Tryz.func116, Tryz.ntmps116
    go_wp2
    go_ret
    exact ⟨rfl, F _ (fun hh => by have := HM.out; omega)⟩
  · have d0 : ¬ (m : Int) + 1 = 0 := by omega
    have d1 : ¬ m + 1 = 1 := by omega
    have d2 : (1 : Int) ≤ (m : Int) + 1 := by omega
    go_enter Tryz.func116, Tryz.ntmps116
    go_wp2
    go_ret
    exact ⟨rfl, FIN.out _ (fun _ => rfl)⟩
theorem eqW_t {b : ByteArray} {l : List UInt8} (h : isW b l) : (b.toList == l) = true := by
  rw [ByteArray.toList_eq]
  exact beq_iff_eq.2 h
theorem eqW_f {b : ByteArray} {l : List UInt8} (h : ¬ isW b l) : (b.toList == l) = false := by
  rw [ByteArray.toList_eq]
  exact beq_eq_false_iff_ne.2 h
set_option maxRecDepth 20000 in
set_option maxHeartbeats 1000000 in
theorem iEffO (t : ByteArray) (w : World) :
    Calls Tryz.prog 115 #[.string t] w fun e w' => e = .returned (.int .i64 (efV t)) ∧ w' = w := by
  by_cases h1 : isW t kAllow
  · have q1 : (t.toList == [97, 108, 108, 111, 119]) = true := eqW_t h1
    have E : Hid (efV t = 1) := by show _ = _; unfold efV; rw [if_pos h1]
    go_enter Tryz.func115, Tryz.ntmps115
    go_wp2
    go_ret
    exact ⟨by rw [E.out]; rfl, rfl⟩
  · have q1 : (t.toList == [97, 108, 108, 111, 119]) = false := eqW_f h1
    by_cases h2 : isW t kDeny
    · have q2 : (t.toList == [100, 101, 110, 121]) = true := eqW_t h2
      have E : Hid (efV t = 2) := by show _ = _; unfold efV; rw [if_neg h1, if_pos h2]
      go_enter Tryz.func115, Tryz.ntmps115
      go_wp2
      go_ret
      exact ⟨by rw [E.out]; rfl, rfl⟩
    · have q2 : (t.toList == [100, 101, 110, 121]) = false := eqW_f h2
      have E : Hid (efV t = 0) := by show _ = _; unfold efV; rw [if_neg h1, if_neg h2]
      go_enter Tryz.func115, Tryz.ntmps115
      go_wp2
      go_ret
      exact ⟨by rw [E.out]; rfl, rfl⟩
end Go.Proofs.YtmjolkagkeonfaaGreatDoor
namespace Go.Proofs.YtmjolkagkeonfaaGreatDoor
open Go.RowKit
set_option linter.unusedVariables false
/-! Statements that a call owns. -/
theorem rowApart {w : World} {b g : Nat} {t u : TypeId} {cs ds : Array Value} (h : RowAt w b t cs) (h' : RowAt w g u ds) (ht : t ≠ u) : b ≠ g := by
  intro e
  subst e
  have := h.symm.trans h'
  simp at this
  exact ht this.2
theorem ownsRow_keep {w w' : World} {base : Nat} {t : TypeId} {k : Nat} {v : Value} {n : Nat} {xs : List Value} (h : w.ownsRow base t k v n xs) (hk : ∀ g cs, v.ownBlock = some g → RowAt w g t cs → RowAt w' g t cs) : w'.ownsRow base t k v n xs := by
  refine ⟨h.1, ?_⟩
  rcases h.2 with h0 | ⟨g, cap, cur, he, hb, hr, r⟩
  · exact Or.inl h0
  · exact Or.inr ⟨g, cap, cur, he, hb, hk g cur (by rw [he]; rfl) hr, r⟩
theorem ownsRow_row {w : World} {base : Nat} {t : TypeId} {k : Nat} {v : Value} {n : Nat} {xs : List Value} (h : w.ownsRow base t k v n xs) {g : Nat} (hg : v.ownBlock = some g) : base ≤ g ∧ g < w.heap.size ∧ ∃ cs, RowAt w g t cs := by
  rcases h.2 with ⟨rfl, _⟩ | ⟨g', cap, cur, rfl, hb, hr, r⟩
  · cases hg
  · have e : g' = g := Option.some.inj hg
    subst e
    exact ⟨hb, (show RowAt w g' t cur from hr).lt, cur, hr⟩
theorem OwnStrs.row {w : World} {base : Nat} {v : Value} {xs : List ByteArray} (h : OwnStrs w base v xs) {g : Nat} (hg : v.ownBlock = some g) : base ≤ g ∧ g < w.heap.size ∧ ∃ cs, RowAt w g 9 cs := ownsRow_row h hg
theorem OwnStrs.keep {w w' : World} {base : Nat} {v : Value} {xs : List ByteArray} (h : OwnStrs w base v xs) (hk : ∀ g cs, v.ownBlock = some g → RowAt w g 9 cs → RowAt w' g 9 cs) : OwnStrs w' base v xs := ownsRow_keep h hk
theorem OwnStrs.strsA {w : World} {base : Nat} {a : Option Addr} {n c : Nat} {xs : List ByteArray} (h : OwnStrs w base (.slice a n c) xs) : n = xs.length ∧ Strs w a n c (atB xs) := by
  rcases h.2 with ⟨h0, h1⟩ | ⟨g, cap, cur, he, hb, hr, hnc, hm, hsz, htk⟩
  · cases h0
    exact ⟨h1.symm, Nat.le_refl _, .inl rfl⟩
  · cases he
    have R : RowAt w g 9 cur := hr
    refine ⟨rfl, hnc, .inr ⟨g, 0, rfl, R.lt, fun i hi => ?_⟩⟩
    have := congrArg (·[i]?) htk
    simp only [List.getElem?_take] at this
    rw [if_pos (by omega), List.getElem?_map, atB_get hi] at this
    rw [R.cell (0 + i), Nat.zero_add]
    simpa using this
/-! Conditions. -/
def cnL (L : List Cn) : List Value := L.flatMap fun e => [.int .i64 e.kd, .string e.tx, .int .i64 e.tm]
theorem cnL_app (A B : List Cn) : cnL (A ++ B) = cnL A ++ cnL B := by simp [cnL]
theorem cnL_at : ∀ (L : List Cn) (k : Nat), k < L.length → (cnL L)[k * 3]? = some (.int .i64 (atC L k).kd) ∧ (cnL L)[k * 3 + 1]? = some (.string (atC L k).tx) ∧ (cnL L)[k * 3 + 2]? = some (.int .i64 (atC L k).tm)
  | [], k, h => by simp at h
  | e :: L, 0, h => ⟨rfl, rfl, rfl⟩
  | e :: L, k + 1, h => by
    have q := cnL_at L k (by simpa using h)
    have e1 : cnL (e :: L) = .int .i64 e.kd :: .string e.tx :: .int .i64 e.tm :: cnL L := rfl
    rw [e1, show (k + 1) * 3 = k * 3 + 1 + 1 + 1 by omega]
    simp only [List.getElem?_cons_succ]
    exact q
def OwnCn (w : World) (base : Nat) (v : Value) (L : List Cn) : Prop := w.ownsRow base 83 3 v L.length (cnL L)
theorem OwnCn.nil (w : World) (base : Nat) : OwnCn w base (.slice none 0 0) [] := ⟨rfl, .inl ⟨rfl, rfl⟩⟩
theorem OwnCn.keep {w w' : World} {base : Nat} {v : Value} {L : List Cn} (h : OwnCn w base v L) (hk : ∀ g cs, v.ownBlock = some g → RowAt w g 83 cs → RowAt w' g 83 cs) : OwnCn w' base v L := ownsRow_keep h hk
theorem OwnCn.below {w w' : World} {base : Nat} {v : Value} {L : List Cn} (h : OwnCn w base v L) (hb : Below w.heap.size w w') : OwnCn w' base v L := h.keep fun g cs _ hr => hr.below hb hr.lt
theorem OwnCn.row {w : World} {base : Nat} {v : Value} {L : List Cn} (h : OwnCn w base v L) {g : Nat} (hg : v.ownBlock = some g) : base ≤ g ∧ g < w.heap.size ∧ ∃ cs, RowAt w g 83 cs := ownsRow_row h hg
theorem OwnCn.slice {w : World} {base : Nat} {v : Value} {L : List Cn} (h : OwnCn w base v L) : ∃ a c, v = .slice a L.length c := by
  rcases h.2 with ⟨h0, h1⟩ | ⟨g, cap, cur, he, _⟩
  · exact ⟨_, _, by rw [h0, h1]⟩
  · exact ⟨_, _, he⟩
theorem OwnCn.cns {w : World} {base : Nat} {a : Option Addr} {n c : Nat} {L : List Cn} (h : OwnCn w base (.slice a n c) L) : n = L.length ∧ Cns w a n c (atC L) := by
  rcases h.2 with ⟨h0, h1⟩ | ⟨g, cap, cur, he, hb, hr, hnc, hm, hsz, htk⟩
  · cases h0
    exact ⟨h1.symm, Nat.le_refl _, .inl rfl⟩
  · cases he
    have R : RowAt w g 83 cur := hr
    refine ⟨rfl, hnc, .inr ⟨g, 0, rfl, R.lt, fun k hk => ?_⟩⟩
    have e1 : ∀ p, p < L.length * 3 → cur[p]? = (cnL L)[p]? := fun p hp => by
      have := congrArg (·[p]?) htk
      simp only [List.getElem?_take] at this
      rw [if_pos hp, Array.getElem?_toList] at this
      exact this
    have q := cnL_at L k hk
    simp only [Nat.zero_add]
    rw [R.cell, R.cell, R.cell, e1 _ (by omega), e1 _ (by omega), e1 _ (by omega)]
    exact q
theorem Tryz.infoCn2 : (Tryz.prog.info? 83).map (fun i => (i.zero, i.size, i.bytes)) = some (some (.agg #[.int .i64 0, .string ⟨#[]⟩, .int .i64 0]), 3, 32) := by kernel_rfl
/-- one condition, in a box just made, is appended -/
theorem append_cn {ops : Array Oper} {rest : List Oper} {o : Oper} {a : Act} {Q : Exit → Act → World → Prop} (base : Nat) (wr : World) (hgd : o.guard = none) (s x : Operand)
    (ho : o.op = .call { callee := .builtin .append, args := #[s, x], argTypes := #[71, 71] })
    (v : Value) (L : List Cn) (e : Cn) (hs : a.eval s = v) (hown : OwnCn wr base v L) (hsz : base ≤ wr.heap.size)
    (hx : a.eval x = .slice (some ⟨wr.heap.size, 0, none⟩) 1 1) (hlen : L.length ≤ 1048576)
    (h : ∀ v' w', OwnCn w' base v' (L ++ [e]) → wr.grownBy w' v.ownBlock → wpList Tryz.prog ops Q rest (a.put o.dst v') w') :
    wpList Tryz.prog ops Q (o :: rest) a (wr.alloc (.cells #[.int .i64 e.kd, .string e.tx, .int .i64 e.tm] 83)) := by
  obtain ⟨i0, hi, hz0, hz1, hz2⟩ := info_parts Tryz.infoCn2
  refine wpList_append_own _ hgd s x 71 ho base 83 i0 _ 3 32 Tryz.underlying71 hi hz0 hz1 hz2 rfl (by decide) v L.length _ hs (World.ownsRow.alloc hown _) ⟨wr.heap.size, 0, none⟩ 1 1 [.int .i64 e.kd, .string e.tx, .int .i64 e.tm] hx rfl ?_ ?_ ?_ ?_ ?_ ?_
  · intro j u hj
    have R := RowAt.new wr 83 #[.int .i64 e.kd, .string e.tx, .int .i64 e.tm]
    match j, hj with
    | 0, hj => simp at hj; subst hj; exact R.cell 0
    | 1, hj => simp at hj; subst hj; exact R.cell 1
    | 2, hj => simp at hj; subst hj; exact R.cell 2
  · intro u hu; simp at hu; rcases hu with rfl | rfl | rfl <;> rfl
  · unfold maxLen; omega
  · omega
  · simp; omega
  · intro v' w' h1 h2 h3
    refine h v' w' ?_ (grown_trans (World.grownBy_alloc wr _ _) h2)
    unfold OwnCn
    rw [cnL_app, List.length_append]
    exact h1
/-! Statements. -/
def stA (L : List St) (i : Nat) : St := L.getD i st0
def psA (L : List PS) (i : Nat) : PS := L.getD i ⟨0, [], [], [], []⟩
theorem psA_app {L : List PS} {p : PS} {i : Nat} (h : i < L.length) : psA (L ++ [p]) i = psA L i := by unfold psA; simp [List.getD_eq_getElem?_getD, List.getElem?_append_left h]
theorem psA_last (L : List PS) (p : PS) : psA (L ++ [p]) L.length = p := by unfold psA; simp [List.getD_eq_getElem?_getD]
theorem stA_app {L : List St} {p : St} {i : Nat} (h : i < L.length) : stA (L ++ [p]) i = stA L i := by unfold stA; simp [List.getD_eq_getElem?_getD, List.getElem?_append_left h]
theorem stA_last (L : List St) (p : St) : stA (L ++ [p]) L.length = p := by unfold stA; simp [List.getD_eq_getElem?_getD]
def stL (L : List St) : List Value := L.flatMap fun e => [.int .i64 e.ef, .slice e.wo.ad e.wo.n e.wo.cap, .slice e.wa.ad e.wa.n e.wa.cap, .slice e.wi.ad e.wi.n e.wi.cap, .slice e.cs.ad e.cs.n e.cs.cap]
theorem stL_app (A B : List St) : stL (A ++ B) = stL A ++ stL B := by simp [stL]
theorem stL_at : ∀ (L : List St) (k : Nat), k < L.length → (stL L)[k * 5]? = some (.int .i64 (stA L k).ef) ∧ (stL L)[k * 5 + 1]? = some (.slice (stA L k).wo.ad (stA L k).wo.n (stA L k).wo.cap) ∧ (stL L)[k * 5 + 2]? = some (.slice (stA L k).wa.ad (stA L k).wa.n (stA L k).wa.cap) ∧ (stL L)[k * 5 + 3]? = some (.slice (stA L k).wi.ad (stA L k).wi.n (stA L k).wi.cap) ∧ (stL L)[k * 5 + 4]? = some (.slice (stA L k).cs.ad (stA L k).cs.n (stA L k).cs.cap)
  | [], k, h => by simp at h
  | e :: L, 0, h => ⟨rfl, rfl, rfl, rfl, rfl⟩
  | e :: L, k + 1, h => by
    have q := stL_at L k (by simpa using h)
    have e1 : stL (e :: L) = .int .i64 e.ef :: .slice e.wo.ad e.wo.n e.wo.cap :: .slice e.wa.ad e.wa.n e.wa.cap :: .slice e.wi.ad e.wi.n e.wi.cap :: .slice e.cs.ad e.cs.n e.cs.cap :: stL L := rfl
    have e2 : stA (e :: L) (k + 1) = stA L k := by unfold stA; simp
    rw [e1, e2, show (k + 1) * 5 = k * 5 + 1 + 1 + 1 + 1 + 1 by omega]
    simp only [List.getElem?_cons_succ]
    exact q
def OwnSt (w : World) (base : Nat) (v : Value) (L : List St) : Prop := w.ownsRow base 73 5 v L.length (stL L)
theorem OwnSt.nil (w : World) (base : Nat) : OwnSt w base (.slice none 0 0) [] := ⟨rfl, .inl ⟨rfl, rfl⟩⟩
theorem OwnSt.empty (w : World) : OwnSt (w.alloc (.cells #[] 73)) w.heap.size (.slice (some ⟨w.heap.size, 0, none⟩) 0 0) [] :=
  World.ownsRow_made w #[] 0 (Nat.le_refl _) (by decide) rfl
theorem OwnSt.keep {w w' : World} {base : Nat} {v : Value} {L : List St} (h : OwnSt w base v L) (hk : ∀ g cs, v.ownBlock = some g → RowAt w g 73 cs → RowAt w' g 73 cs) : OwnSt w' base v L := ownsRow_keep h hk
theorem OwnSt.below {w w' : World} {base : Nat} {v : Value} {L : List St} (h : OwnSt w base v L) (hb : Below w.heap.size w w') : OwnSt w' base v L := h.keep fun g cs _ hr => hr.below hb hr.lt
theorem OwnSt.row {w : World} {base : Nat} {v : Value} {L : List St} (h : OwnSt w base v L) {g : Nat} (hg : v.ownBlock = some g) : base ≤ g ∧ g < w.heap.size ∧ ∃ cs, RowAt w g 73 cs := ownsRow_row h hg
theorem OwnSt.slice {w : World} {base : Nat} {v : Value} {L : List St} (h : OwnSt w base v L) : ∃ a c, v = .slice a L.length c := by
  rcases h.2 with ⟨h0, h1⟩ | ⟨g, cap, cur, he, _⟩
  · exact ⟨_, _, by rw [h0, h1]⟩
  · exact ⟨_, _, he⟩
theorem OwnSt.frow {w : World} {base : Nat} {a : Option Addr} {c : Nat} {L : List St} (h : OwnSt w base (.slice a L.length c) L) (hL : L.length ≠ 0) : ∃ g f, a = some ⟨g, 0, none⟩ ∧ base ≤ g ∧ L.length ≤ c ∧ FRow w g 73 (c * 5) f ∧ ∀ p, p < L.length * 5 → f p = stF (stA L) p := by
  rcases h.2 with ⟨_, h1⟩ | ⟨g, cap, cur, he, hb, hr, hnc, hm, hsz, htk⟩
  · exact absurd h1 hL
  · injection he with e1 e2 e3
    subst e3
    have e0 : ∀ p, p < L.length * 5 → cur[p]? = (stL L)[p]? := fun p hp => by
      have q := congrArg (·[p]?) htk
      simp only [List.getElem?_take] at q
      rw [if_pos hp, Array.getElem?_toList] at q
      exact q
    have hd : ∀ p v, cur[p]? = some v → cur.getD p (.int .i64 0) = v := fun p v hp => by simp [Array.getD_eq_getD_getElem?, hp]
    refine ⟨g, fun p => cur.getD p (.int .i64 0), e1, hb, hnc, FRow.of (show RowAt w g 73 cur from hr) hsz fun p hp => ?_, fun p hp => ?_⟩
    · rw [Array.getElem?_eq_getElem (by omega)]
      simp [Array.getD, show p < cur.size by omega]
    · obtain ⟨q0, q1, q2, q3, q4⟩ := stL_at L (p / 5) (by omega)
      rcases (by omega : p = p / 5 * 5 ∨ p = p / 5 * 5 + 1 ∨ p = p / 5 * 5 + 2 ∨ p = p / 5 * 5 + 3 ∨ p = p / 5 * 5 + 4) with e | e | e | e | e
      · exact hd _ _ (by rw [e0 _ hp, e, q0, stF0])
      · exact hd _ _ (by rw [e0 _ hp, e, q1, stF1])
      · exact hd _ _ (by rw [e0 _ hp, e, q2, stF2])
      · exact hd _ _ (by rw [e0 _ hp, e, q3, stF3])
      · exact hd _ _ (by rw [e0 _ hp, e, q4, stF4])
theorem Tryz.infoSt2 : (Tryz.prog.info? 73).map (fun i => (i.zero, i.size, i.bytes)) = some (some (.agg #[.int .i64 0, .slice none 0 0, .slice none 0 0, .slice none 0 0, .slice none 0 0]), 5, 104) := by kernel_rfl
/-- one statement, in a box just made, is appended -/
theorem append_st {ops : Array Oper} {rest : List Oper} {o : Oper} {a : Act} {Q : Exit → Act → World → Prop} (base : Nat) (wr : World) (hgd : o.guard = none) (s x : Operand)
    (ho : o.op = .call { callee := .builtin .append, args := #[s, x], argTypes := #[23, 23] })
    (v : Value) (L : List St) (e : St) (hs : a.eval s = v) (hown : OwnSt wr base v L) (hsz : base ≤ wr.heap.size)
    (hx : a.eval x = .slice (some ⟨wr.heap.size, 0, none⟩) 1 1) (hlen : L.length ≤ 1048576)
    (h : ∀ v' w', OwnSt w' base v' (L ++ [e]) → wr.grownBy w' v.ownBlock → wpList Tryz.prog ops Q rest (a.put o.dst v') w') :
    wpList Tryz.prog ops Q (o :: rest) a (wr.alloc (.cells #[.int .i64 e.ef, .slice e.wo.ad e.wo.n e.wo.cap, .slice e.wa.ad e.wa.n e.wa.cap, .slice e.wi.ad e.wi.n e.wi.cap, .slice e.cs.ad e.cs.n e.cs.cap] 73)) := by
  obtain ⟨i0, hi, hz0, hz1, hz2⟩ := info_parts Tryz.infoSt2
  refine wpList_append_own _ hgd s x 23 ho base 73 i0 _ 5 104 Tryz.underlying23 hi hz0 hz1 hz2 rfl (by decide) v L.length _ hs (World.ownsRow.alloc hown _) ⟨wr.heap.size, 0, none⟩ 1 1 [.int .i64 e.ef, .slice e.wo.ad e.wo.n e.wo.cap, .slice e.wa.ad e.wa.n e.wa.cap, .slice e.wi.ad e.wi.n e.wi.cap, .slice e.cs.ad e.cs.n e.cs.cap] hx rfl ?_ ?_ ?_ ?_ ?_ ?_
  · intro j u hj
    have R := RowAt.new wr 73 #[.int .i64 e.ef, .slice e.wo.ad e.wo.n e.wo.cap, .slice e.wa.ad e.wa.n e.wa.cap, .slice e.wi.ad e.wi.n e.wi.cap, .slice e.cs.ad e.cs.n e.cs.cap]
    match j, hj with
    | 0, hj => simp at hj; subst hj; exact R.cell 0
    | 1, hj => simp at hj; subst hj; exact R.cell 1
    | 2, hj => simp at hj; subst hj; exact R.cell 2
    | 3, hj => simp at hj; subst hj; exact R.cell 3
    | 4, hj => simp at hj; subst hj; exact R.cell 4
  · intro u hu; simp at hu; rcases hu with rfl | rfl | rfl | rfl | rfl <;> rfl
  · unfold maxLen; omega
  · omega
  · simp; omega
  · intro v' w' h1 h2 h3
    refine h v' w' ?_ (grown_trans (World.grownBy_alloc wr _ _) h2)
    unfold OwnSt
    rw [stL_app, List.length_append]
    exact h1
/-- a value's own block lies below hi -/
def blt (v : Value) (hi : Nat) : Prop := ∀ g, v.ownBlock = some g → g < hi
/-- a statement's value stands for p; its slices lie in blocks from lo on and below hi, one behind the other -/
structure PsAt (w : World) (lo hi : Nat) (s : St) (p : PS) : Prop where
  ef : s.ef = p.ef
  mem : ∃ x1 x2 x3, lo ≤ x1 ∧ x1 ≤ x2 ∧ x2 ≤ x3 ∧ x3 ≤ hi ∧ (OwnStrs w lo (.slice s.wo.ad s.wo.n s.wo.cap) p.wo ∧ blt (.slice s.wo.ad s.wo.n s.wo.cap) x1) ∧ (OwnStrs w x1 (.slice s.wa.ad s.wa.n s.wa.cap) p.wa ∧ blt (.slice s.wa.ad s.wa.n s.wa.cap) x2) ∧ (OwnStrs w x2 (.slice s.wi.ad s.wi.n s.wi.cap) p.wi ∧ blt (.slice s.wi.ad s.wi.n s.wi.cap) x3) ∧ (OwnCn w x3 (.slice s.cs.ad s.cs.n s.cs.cap) p.cs ∧ blt (.slice s.cs.ad s.cs.n s.cs.cap) hi)
  t1 : s.wo.ts = atB p.wo
  t2 : s.wa.ts = atB p.wa
  t3 : s.wi.ts = atB p.wi
  o4 : s.cs.o = atC p.cs
theorem PsAt.keep {w w' : World} {lo hi : Nat} {s : St} {p : PS} (h : PsAt w lo hi s p) (hk : ∀ g t cs, lo ≤ g → g < hi → (t = 9 ∨ t = 83) → RowAt w g t cs → RowAt w' g t cs) : PsAt w' lo hi s p := by
  obtain ⟨x1, x2, x3, l1, l2, l3, l4, ⟨a1, b1⟩, ⟨a2, b2⟩, ⟨a3, b3⟩, ⟨a4, b4⟩⟩ := h.mem
  exact ⟨h.ef, ⟨x1, x2, x3, l1, l2, l3, l4, ⟨a1.keep fun g cs hg hr => hk g _ cs (a1.row hg).1 (by have := b1 g hg; omega) (.inl rfl) hr, b1⟩, ⟨a2.keep fun g cs hg hr => hk g _ cs (by have := (a2.row hg).1; omega) (by have := b2 g hg; omega) (.inl rfl) hr, b2⟩, ⟨a3.keep fun g cs hg hr => hk g _ cs (by have := (a3.row hg).1; omega) (by have := b3 g hg; omega) (.inl rfl) hr, b3⟩, ⟨a4.keep fun g cs hg hr => hk g _ cs (by have := (a4.row hg).1; omega) (by have := b4 g hg; omega) (.inr rfl) hr, b4⟩⟩, h.t1, h.t2, h.t3, h.o4⟩
theorem PsAt.below {w w' : World} {lo hi : Nat} {s : St} {p : PS} (h : PsAt w lo hi s p) (hb : Below w.heap.size w w') : PsAt w' lo hi s p := h.keep fun g t cs _ _ _ hr => hr.below hb hr.lt
theorem PsAt.le {w : World} {lo hi : Nat} {s : St} {p : PS} (h : PsAt w lo hi s p) : lo ≤ hi := by
  obtain ⟨x1, x2, x3, l1, l2, l3, l4, _⟩ := h.mem
  omega
theorem PsAt.lens {w : World} {lo hi : Nat} {s : St} {p : PS} (h : PsAt w lo hi s p) : s.wo.n = p.wo.length ∧ s.wa.n = p.wa.length ∧ s.wi.n = p.wi.length ∧ s.cs.n = p.cs.length := by
  obtain ⟨x1, x2, x3, l1, l2, l3, l4, ⟨a1, b1⟩, ⟨a2, b2⟩, ⟨a3, b3⟩, ⟨a4, b4⟩⟩ := h.mem
  exact ⟨a1.strsA.1, a2.strsA.1, a3.strsA.1, a4.cns.1⟩
theorem PsAt.in {w : World} {lo hi : Nat} {s : St} {p : PS} (h : PsAt w lo hi s p) : StIn w s := by
  obtain ⟨x1, x2, x3, l1, l2, l3, l4, ⟨a1, b1⟩, ⟨a2, b2⟩, ⟨a3, b3⟩, ⟨a4, b4⟩⟩ := h.mem
  exact ⟨by rw [h.t1]; exact a1.strsA.2, by rw [h.t2]; exact a2.strsA.2, by rw [h.t3]; exact a3.strsA.2, by rw [h.o4]; exact a4.cns.2⟩
theorem PsAt.eq {w w' : World} {lo hi lo' hi' : Nat} {s s' : St} {p : PS} (h : PsAt w lo hi s p) (h' : PsAt w' lo' hi' s' p) : StEq s s' := by
  obtain ⟨n1, n2, n3, n4⟩ := h.lens
  obtain ⟨m1, m2, m3, m4⟩ := h'.lens
  exact ⟨h.ef.trans h'.ef.symm, n1.trans m1.symm, h.t1.trans h'.t1.symm, n2.trans m2.symm, h.t2.trans h'.t2.symm, n3.trans m3.symm, h.t3.trans h'.t3.symm, n4.trans m4.symm, h.o4.trans h'.o4.symm⟩
theorem PsAt.iff {w : World} {lo hi : Nat} {s : St} {p : PS} (h : PsAt w lo hi s p) : stP s ↔ psP p := by
  obtain ⟨n1, n2, n3, n4⟩ := h.lens
  unfold stP psP
  rw [h.ef, n1, n2, n3, n4, h.t1, h.t2, h.t3, h.o4]
/-- sizes -/
def lsB (L : List ByteArray) : Prop := L.length ≤ 1048576 ∧ ∀ x ∈ L, x.size ≤ 1048576
def cnB (L : List Cn) : Prop := L.length ≤ 1048576 ∧ ∀ x ∈ L, x.tx.size ≤ 1048576
def psB (p : PS) : Prop := lsB p.wo ∧ lsB p.wa ∧ lsB p.wi ∧ cnB p.cs
theorem lsB_at {L : List ByteArray} (h : lsB L) (i : Nat) (hi : i < L.length) : (atB L i).size ≤ 1048576 := h.2 _ (by have := atB_get hi; exact List.mem_of_getElem? this)
theorem cnB_at {L : List Cn} (h : cnB L) (i : Nat) (hi : i < L.length) : (atC L i).tx.size ≤ 1048576 := h.2 _ (by have := atC_get hi; exact List.mem_of_getElem? this)
theorem PsAt.stB {w : World} {lo hi : Nat} {s : St} {p : PS} (h : PsAt w lo hi s p) (hp : psB p) : StB s 1048576 := by
  obtain ⟨n1, n2, n3, n4⟩ := h.lens
  obtain ⟨p1, p2, p3, p4⟩ := hp
  exact ⟨⟨by rw [n1]; exact p1.1, fun i hi => by rw [h.t1]; exact lsB_at p1 i (by omega)⟩, ⟨by rw [n2]; exact p2.1, fun i hi => by rw [h.t2]; exact lsB_at p2 i (by omega)⟩, ⟨by rw [n3]; exact p3.1, fun i hi => by rw [h.t3]; exact lsB_at p3 i (by omega)⟩, ⟨by rw [n4]; exact p4.1, fun i hi => by rw [h.o4]; exact cnB_at p4 i (by omega)⟩⟩
/-- a policy: its statements lie one behind the other -/
structure PolR (w : World) (B : Nat) (v : Value) (L : List PS) (Rs : List St) (X : Nat → Nat) : Prop where
  own : OwnSt w B v Rs
  len : Rs.length = L.length
  lo : B ≤ X 0
  hi : X L.length ≤ w.heap.size
  at_ : ∀ i, i < L.length → PsAt w (X i) (X (i + 1)) (stA Rs i) (psA L i)
theorem PolR.below {w w' : World} {B : Nat} {v : Value} {L : List PS} {Rs : List St} {X : Nat → Nat} (h : PolR w B v L Rs X) (hb : Below w.heap.size w w') : PolR w' B v L Rs X :=
  ⟨h.own.below hb, h.len, h.lo, Nat.le_trans h.hi hb.size, fun i hi => (h.at_ i hi).below hb⟩
def PolAt (w : World) (B : Nat) (v : Value) (L : List PS) : Prop := ∃ Rs X, PolR w B v L Rs X
theorem PolAt.below {w w' : World} {B : Nat} {v : Value} {L : List PS} (h : PolAt w B v L) (hb : Below w.heap.size w w') : PolAt w' B v L := by
  obtain ⟨Rs, X, h⟩ := h
  exact ⟨Rs, X, h.below hb⟩
theorem PolAt.nil (w : World) (B : Nat) (hB : B ≤ w.heap.size) : PolAt w B (.slice none 0 0) [] := ⟨[], fun _ => B, OwnSt.nil _ _, rfl, Nat.le_refl _, hB, fun i hi => absurd hi (by simp)⟩
theorem PolAt.empty (w : World) : PolAt (w.alloc (.cells #[] 73)) w.heap.size (.slice (some ⟨w.heap.size, 0, none⟩) 0 0) [] := ⟨[], fun _ => w.heap.size, OwnSt.empty _, rfl, Nat.le_refl _, by rw [size_al]; show w.heap.size ≤ _; omega, fun i hi => absurd hi (by simp)⟩
theorem PolR.mono {w : World} {B : Nat} {v : Value} {L : List PS} {Rs : List St} {X : Nat → Nat} (h : PolR w B v L Rs X) : ∀ i j, i ≤ j → j ≤ L.length → X i ≤ X j := by
  intro i j hij
  induction j with
  | zero => intro _; rw [show i = 0 by omega]; exact Nat.le_refl _
  | succ j ih =>
    intro hj
    by_cases e : i = j + 1
    · rw [e]; exact Nat.le_refl _
    · exact Nat.le_trans (ih (by omega) (by omega)) (h.at_ j (by omega)).le
/-- one more: behind an append that gave v' -/
theorem PolR.snoc {w w' : World} {B lo hi : Nat} {v v' : Value} {L : List PS} {Rs : List St} {X : Nat → Nat} {s : St} {p : PS} (h : PolR w B v L Rs X) (hp : PsAt w lo hi s p) (hlo : X L.length ≤ lo) (hhi : hi ≤ w.heap.size) (ho : OwnSt w' B v' (Rs ++ [s])) (hg : w.grownBy w' v.ownBlock) : PolAt w' B v' (L ++ [p]) := by
  have kp : ∀ g t cs, (t = 9 ∨ t = 83) → RowAt w g t cs → RowAt w' g t cs := fun g t cs ht hr => by
    refine (hg.block g hr.lt fun e => ?_).trans hr
    obtain ⟨_, _, ds, hd⟩ := h.own.row e.symm
    exact rowApart hr hd (by rcases ht with rfl | rfl <;> decide) rfl
  refine ⟨Rs ++ [s], fun i => if i ≤ L.length then X i else hi, ho, by simp [h.len], by simp [h.lo], ?_, fun i hi => ?_⟩
  · rw [List.length_append]
    show (if L.length + 1 ≤ L.length then _ else hi) ≤ _
    rw [if_neg (by omega)]
    exact Nat.le_trans hhi hg.size
  · rw [List.length_append] at hi
    have hi : i < L.length + 1 := hi
    by_cases e : i < L.length
    · rw [if_pos (by omega), if_pos (by omega), psA_app e, stA_app (by rw [h.len]; exact e)]
      exact (h.at_ i e).keep fun g t cs _ _ ht hr => kp g t cs ht hr
    · have e2 : i = L.length := by omega
      subst e2
      rw [if_pos (Nat.le_refl _), if_neg (by omega), psA_last]
      conv => arg 4; rw [← h.len, stA_last]
      have q := hp.keep (w' := w') fun g t cs _ _ ht hr => kp g t cs ht hr
      obtain ⟨x1, x2, x3, l1, l2, l3, l4, ⟨a1, b1⟩, r⟩ := q.mem
      refine ⟨q.ef, ⟨x1, x2, x3, by omega, l2, l3, l4, ⟨?_, b1⟩, r⟩, q.t1, q.t2, q.t3, q.o4⟩
      refine ⟨a1.1, ?_⟩
      rcases a1.2 with h0 | ⟨g, cap, cur, he, hb, r⟩
      · exact .inl h0
      · exact .inr ⟨g, cap, cur, he, by omega, r⟩
end Go.Proofs.YtmjolkagkeonfaaGreatDoor
