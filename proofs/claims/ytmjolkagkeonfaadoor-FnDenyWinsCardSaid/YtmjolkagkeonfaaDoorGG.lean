import Derived.Test.YtmjolkagkeonfaaDoorIPol3
import Derived.Test.YtmjolkagkeonfaaDoorGE
import Derived.Test.YtmjolkagkeonfaaDoorGB
import Derived.Test.YtmjolkagkeonfaaDoorGD
import Derived.Laws.AppendOwnNone
import Derived.Deep.AppendLies
import Derived.RegionDies
import Derived.Defers
import Derived.Recover
import Derived.Laws.Pointers
namespace Go.Proofs.YtmjolkagkeonfaaDoor
open Go.RowKit
/-! The program's statementFits. -/
theorem bdN {n : Nat} {w w' : World} (h : Below n w w') (k : Nat) : Below n w (w'.drewN k) := ⟨h.1, h.2, h.3, h.4, h.5⟩
set_option maxRecDepth 20000 in
set_option maxHeartbeats 2000000 in
theorem iCF0 (kd : Int) (tx : ByteArray) (tm : Int) (h1 : ¬ kd = 1) (h2 : ¬ kd = 2) (h3 : ¬ kd = 3) (h4 : ¬ kd = 4) (w : World) :
    Calls Tryd.prog 47 #[.agg #[.int .i64 kd, .string tx, .int .i64 tm]] w fun e w' => e = .returned (.bool (pb (cnP ⟨kd, tx, tm⟩))) ∧ Below w.heap.size w w' := by
  have N : Hid (pb (cnP ⟨kd, tx, tm⟩) = false) := pb_f (cnP_o h1 h2 h3 h4)
  have K := hid (iCond0 kd tx tm h1 h2 h3 h4)
  clear h1 h2 h3 h4
  go_enter Tryd.func47, Tryd.ntmps47
  go_wp2_with fail
  refine (K.out _).mono ?_
  rintro e w2 ⟨rfl, rfl⟩
  go_wp2_with fail
  go_quiet (fail)
  go_wp2
  go_ret
  exact ⟨by rw [N.out]; rfl, bdN (balCn (balCn (Below.refl _ _) _) _) _⟩
theorem iCF (c : Cn) (ht : c.tx.size ≤ 1048576) (w : World) :
    Calls Tryd.prog 47 #[.agg #[.int .i64 c.kd, .string c.tx, .int .i64 c.tm]] w fun e w' => e = .returned (.bool (pb (cnP c))) ∧ Below w.heap.size w w' := by
  obtain ⟨kd, tx, tm⟩ := c
  dsimp only at ht ⊢
  by_cases h1 : kd = 1
  · subst h1; exact iCF1 tx tm ht w
  by_cases h2 : kd = 2
  · subst h2; exact iCF2 tx tm ht w
  by_cases h3 : kd = 3
  · subst h3; exact iCF3 tx tm ht w
  by_cases h4 : kd = 4
  · subst h4; exact iCF4 tx tm ht w
  exact iCF0 kd tx tm h1 h2 h3 h4 w
set_option maxRecDepth 20000 in
set_option maxHeartbeats 4000000 in
theorem iStF (s : St) (hs : StB s 1048576) (w : World) (h : StIn w s) :
    Calls Tryd.prog 41 #[.agg #[.int .i64 s.ef, .slice s.wo.ad s.wo.n s.wo.cap, .slice s.wa.ad s.wa.n s.wa.cap, .slice s.wi.ad s.wi.n s.wi.cap, .slice s.cs.ad s.cs.n s.cs.cap]] w fun e w' => e = .returned (.bool (pb (stP s))) ∧ Below w.heap.size w w' := by
  obtain ⟨f, ⟨a1, n1, c1, t1⟩, ⟨a2, n2, c2, t2⟩, ⟨a3, n3, c3, t3⟩, ⟨a4, n4, c4, o4⟩⟩ := s
  dsimp only
  obtain ⟨W0, hW0⟩ : ∃ W, W = w.alloc (.cells #[.int .i64 f, .slice a1 n1 c1, .slice a2 n2 c2, .slice a3 n3 c3, .slice a4 n4 c4] 33) := ⟨_, rfl⟩
  have A0 : RowAt W0 w.heap.size 33 #[.int .i64 f, .slice a1 n1 c1, .slice a2 n2 c2, .slice a3 n3 c3, .slice a4 n4 c4] := by rw [hW0]; exact RowAt.new _ _ _
  have B0 : Hid (Below w.heap.size w W0) := by rw [hW0]; exact balCn (Below.refl _ _) _
  have K1 := hid (iList a1 n1 c1 t1 hs.wo.1 hs.wo.2 W0 (h.wo.below B0.out))
  have K2 := hid (iList a2 n2 c2 t2 hs.wa.1 hs.wa.2 W0 (h.wa.below B0.out))
  have K3 := hid (iList a3 n3 c3 t3 hs.wi.1 hs.wi.2 W0 (h.wi.below B0.out))
  have HC := hid (h.cs.below B0.out)
  have HT := hid hs.cs.2
  have hn4 : n4 ≤ 1048576 := hs.cs.1
  dsimp only at HC HT
  have x0 := A0.cell 0
  have x1 := A0.cell 1
  have x2 := A0.cell 2
  have x3 := A0.cell 3
  have x4 := A0.cell 4
  clear h hs A0
  by_cases f1 : f = 1
  · subst f1
    go_enter Tryd.func41, Tryd.ntmps41
    go_wp2_with fail
    rw [← hW0]
    clear hW0
    by_cases p1 : lsP n1 t1
    · rw [pb_t p1] at K1
      refine K1.out.mono ?_
      rintro e w2 ⟨rfl, hh2⟩
      obtain rfl := hh2.symm
      go_wp2_with fail
      by_cases p2 : lsP n2 t2
      · rw [pb_t p2] at K2
        refine K2.out.mono ?_
        rintro e w2 ⟨rfl, hh2⟩
        obtain rfl := hh2.symm
        go_wp2_with fail
        by_cases p3 : lsP n3 t3
        · rw [pb_t p3] at K3
          refine K3.out.mono ?_
          rintro e w2 ⟨rfl, hh2⟩
          obtain rfl := hh2.symm
          obtain ⟨TV, hTV⟩ : ∃ v, v = pb (stP ⟨1, ⟨a1, n1, c1, t1⟩, ⟨a2, n2, c2, t2⟩, ⟨a3, n3, c3, t3⟩, ⟨a4, n4, c4, o4⟩⟩) := ⟨_, rfl⟩
          have PF : Hid (isP n4 o4 → TV = true) := fun h4 => by rw [hTV]; exact pb_t ⟨.inl rfl, p1, p2, p3, h4⟩
          have NF : Hid (¬ isP n4 o4 → TV = false) := fun h4 => by rw [hTV]; exact pb_f fun hh => h4 hh.2.2.2.2
          have HTV := hid hTV
          clear hTV
          clear p1 p2 p3 K1 K2 K3
          go_wp2_with fail
          go_loopw [32] (fun v wr => ∃ k : Nat, k ≤ n4 ∧ v = .int .i64 (k : Int) ∧ (∀ i, i < k → cnP (o4 i)) ∧ Below w.heap.size w wr ∧ Below W0.heap.size W0 wr) (fun v _ => n4 - (intOf v).toNat)
          case atStart => exact ⟨0, Nat.zero_le _, rfl, fun i hi => absurd hi (Nat.not_lt_zero _), B0.out, Below.refl _ _⟩
          case round =>
            obtain ⟨k, hk, rfl, hr, hB, hB'⟩ := hrel
            have HR := hid hr
            have HB := hid hB
            have HB' := hid hB'
            clear hr hB hB'
            by_cases hlt : k < n4
            · have d3 : (k : Int) < (n4 : Int) := by omega
              have k0 : (0 : Int) ≤ (k : Int) := by omega
              rcases (HC.out.below HB'.out).2 with h00 | ⟨b, off, rfl, hbl, hc⟩
              · omega
              obtain ⟨y0, y1, y2⟩ := hc k hlt
              have st := HT.out k hlt
              have FA : Hid (¬ cnP (o4 k) → TV = false) := fun hh => NF.out fun hi => hh (hi k hlt)
              have TR : Hid (cnP (o4 k) → ∀ i, i < k + 1 → cnP (o4 i)) := fun hh i hi => by
                by_cases e : i = k
                · subst e; exact hh
                · exact HR.out i (by omega)
              have KC := fun w => hid (iCF (o4 k) st w)
              generalize o4 k = C at y0 y1 y2 st FA TR KC
              obtain ⟨kd, tx, tm⟩ := C
              dsimp only at y0 y1 y2 st KC
              obtain ⟨W2, hW2⟩ : ∃ W, W = wr.alloc (.cells #[.int .i64 kd, .string tx, .int .i64 tm] 42) := ⟨_, rfl⟩
              have B2 : Hid (Below w.heap.size w W2) := by rw [hW2]; exact HB.out.alloc HB.out.size _
              have B2' : Hid (Below W0.heap.size W0 W2) := by rw [hW2]; exact HB'.out.alloc HB'.out.size _
              clear hc
              by_cases q : cnP ⟨kd, tx, tm⟩
              · have N := hid (TR.out q)
                have hp := pb_t q
                simp only [hp] at KC
                clear q hp FA TR
                go_wp2_with fail
                rw [← hW2]
                clear hW2
                refine (KC _).out.mono ?_
                rintro e w3 ⟨rfl, hb3⟩
                have B3 := hid (B2.out.trans (hb3.mono B2.out.size))
                have B3' := hid (B2'.out.trans (hb3.mono B2'.out.size))
                clear hb3 y0 y1 y2
                go_wp2
                go_roundw
                case rel => exact ⟨k + 1, by omega, by go_num, N.out, B3.out, B3'.out⟩
                case measure => simp [intOf]; omega
              · have N := hid (FA.out q)
                have hp := pb_f q
                simp only [hp] at KC
                clear q hp FA TR
                go_wp2_with fail
                rw [← hW2]
                clear hW2
                refine (KC _).out.mono ?_
                rintro e w3 ⟨rfl, hb3⟩
                have B3 := hid (B2.out.trans (hb3.mono B2.out.size))
                clear hb3 y0 y1 y2
                go_wp2
                go_ret
                exact ⟨by rw [← HTV.out, N.out]; rfl, B3.out⟩
            · have d3 : ¬ (k : Int) < (n4 : Int) := by omega
              have N := hid (PF.out fun i hi => HR.out i (by omega))
              go_wp2
              go_ret
              exact ⟨by rw [← HTV.out, N.out]; rfl, HB.out⟩
        · rw [pb_f p3] at K3
          have N : Hid (pb (stP ⟨1, ⟨a1, n1, c1, t1⟩, ⟨a2, n2, c2, t2⟩, ⟨a3, n3, c3, t3⟩, ⟨a4, n4, c4, o4⟩⟩) = false) := pb_f fun hh => p3 hh.2.2.2.1
          refine K3.out.mono ?_
          rintro e w2 ⟨rfl, hh2⟩
          obtain rfl := hh2.symm
          go_wp2
          go_ret
          exact ⟨by rw [N.out]; rfl, B0.out⟩
      · rw [pb_f p2] at K2
        have N : Hid (pb (stP ⟨1, ⟨a1, n1, c1, t1⟩, ⟨a2, n2, c2, t2⟩, ⟨a3, n3, c3, t3⟩, ⟨a4, n4, c4, o4⟩⟩) = false) := pb_f fun hh => p2 hh.2.2.1
        refine K2.out.mono ?_
        rintro e w2 ⟨rfl, hh2⟩
        obtain rfl := hh2.symm
        go_wp2
        go_ret
        exact ⟨by rw [N.out]; rfl, B0.out⟩
    · rw [pb_f p1] at K1
      have N : Hid (pb (stP ⟨1, ⟨a1, n1, c1, t1⟩, ⟨a2, n2, c2, t2⟩, ⟨a3, n3, c3, t3⟩, ⟨a4, n4, c4, o4⟩⟩) = false) := pb_f fun hh => p1 hh.2.1
      refine K1.out.mono ?_
      rintro e w2 ⟨rfl, hh2⟩
      obtain rfl := hh2.symm
      go_wp2
      go_ret
      exact ⟨by rw [N.out]; rfl, B0.out⟩
  by_cases f2 : f = 2
  · subst f2
    go_enter Tryd.func41, Tryd.ntmps41
    go_wp2_with fail
    rw [← hW0]
    clear hW0
    by_cases p1 : lsP n1 t1
    · rw [pb_t p1] at K1
      refine K1.out.mono ?_
      rintro e w2 ⟨rfl, hh2⟩
      obtain rfl := hh2.symm
      go_wp2_with fail
      by_cases p2 : lsP n2 t2
      · rw [pb_t p2] at K2
        refine K2.out.mono ?_
        rintro e w2 ⟨rfl, hh2⟩
        obtain rfl := hh2.symm
        go_wp2_with fail
        by_cases p3 : lsP n3 t3
        · rw [pb_t p3] at K3
          refine K3.out.mono ?_
          rintro e w2 ⟨rfl, hh2⟩
          obtain rfl := hh2.symm
          obtain ⟨TV, hTV⟩ : ∃ v, v = pb (stP ⟨2, ⟨a1, n1, c1, t1⟩, ⟨a2, n2, c2, t2⟩, ⟨a3, n3, c3, t3⟩, ⟨a4, n4, c4, o4⟩⟩) := ⟨_, rfl⟩
          have PF : Hid (isP n4 o4 → TV = true) := fun h4 => by rw [hTV]; exact pb_t ⟨.inr rfl, p1, p2, p3, h4⟩
          have NF : Hid (¬ isP n4 o4 → TV = false) := fun h4 => by rw [hTV]; exact pb_f fun hh => h4 hh.2.2.2.2
          have HTV := hid hTV
          clear hTV
          clear p1 p2 p3 K1 K2 K3
          go_wp2_with fail
          go_loopw [32] (fun v wr => ∃ k : Nat, k ≤ n4 ∧ v = .int .i64 (k : Int) ∧ (∀ i, i < k → cnP (o4 i)) ∧ Below w.heap.size w wr ∧ Below W0.heap.size W0 wr) (fun v _ => n4 - (intOf v).toNat)
          case atStart => exact ⟨0, Nat.zero_le _, rfl, fun i hi => absurd hi (Nat.not_lt_zero _), B0.out, Below.refl _ _⟩
          case round =>
            obtain ⟨k, hk, rfl, hr, hB, hB'⟩ := hrel
            have HR := hid hr
            have HB := hid hB
            have HB' := hid hB'
            clear hr hB hB'
            by_cases hlt : k < n4
            · have d3 : (k : Int) < (n4 : Int) := by omega
              have k0 : (0 : Int) ≤ (k : Int) := by omega
              rcases (HC.out.below HB'.out).2 with h00 | ⟨b, off, rfl, hbl, hc⟩
              · omega
              obtain ⟨y0, y1, y2⟩ := hc k hlt
              have st := HT.out k hlt
              have FA : Hid (¬ cnP (o4 k) → TV = false) := fun hh => NF.out fun hi => hh (hi k hlt)
              have TR : Hid (cnP (o4 k) → ∀ i, i < k + 1 → cnP (o4 i)) := fun hh i hi => by
                by_cases e : i = k
                · subst e; exact hh
                · exact HR.out i (by omega)
              have KC := fun w => hid (iCF (o4 k) st w)
              generalize o4 k = C at y0 y1 y2 st FA TR KC
              obtain ⟨kd, tx, tm⟩ := C
              dsimp only at y0 y1 y2 st KC
              obtain ⟨W2, hW2⟩ : ∃ W, W = wr.alloc (.cells #[.int .i64 kd, .string tx, .int .i64 tm] 42) := ⟨_, rfl⟩
              have B2 : Hid (Below w.heap.size w W2) := by rw [hW2]; exact HB.out.alloc HB.out.size _
              have B2' : Hid (Below W0.heap.size W0 W2) := by rw [hW2]; exact HB'.out.alloc HB'.out.size _
              clear hc
              by_cases q : cnP ⟨kd, tx, tm⟩
              · have N := hid (TR.out q)
                have hp := pb_t q
                simp only [hp] at KC
                clear q hp FA TR
                go_wp2_with fail
                rw [← hW2]
                clear hW2
                refine (KC _).out.mono ?_
                rintro e w3 ⟨rfl, hb3⟩
                have B3 := hid (B2.out.trans (hb3.mono B2.out.size))
                have B3' := hid (B2'.out.trans (hb3.mono B2'.out.size))
                clear hb3 y0 y1 y2
                go_wp2
                go_roundw
                case rel => exact ⟨k + 1, by omega, by go_num, N.out, B3.out, B3'.out⟩
                case measure => simp [intOf]; omega
              · have N := hid (FA.out q)
                have hp := pb_f q
                simp only [hp] at KC
                clear q hp FA TR
                go_wp2_with fail
                rw [← hW2]
                clear hW2
                refine (KC _).out.mono ?_
                rintro e w3 ⟨rfl, hb3⟩
                have B3 := hid (B2.out.trans (hb3.mono B2.out.size))
                clear hb3 y0 y1 y2
                go_wp2
                go_ret
                exact ⟨by rw [← HTV.out, N.out]; rfl, B3.out⟩
            · have d3 : ¬ (k : Int) < (n4 : Int) := by omega
              have N := hid (PF.out fun i hi => HR.out i (by omega))
              go_wp2
              go_ret
              exact ⟨by rw [← HTV.out, N.out]; rfl, HB.out⟩
        · rw [pb_f p3] at K3
          have N : Hid (pb (stP ⟨2, ⟨a1, n1, c1, t1⟩, ⟨a2, n2, c2, t2⟩, ⟨a3, n3, c3, t3⟩, ⟨a4, n4, c4, o4⟩⟩) = false) := pb_f fun hh => p3 hh.2.2.2.1
          refine K3.out.mono ?_
          rintro e w2 ⟨rfl, hh2⟩
          obtain rfl := hh2.symm
          go_wp2
          go_ret
          exact ⟨by rw [N.out]; rfl, B0.out⟩
      · rw [pb_f p2] at K2
        have N : Hid (pb (stP ⟨2, ⟨a1, n1, c1, t1⟩, ⟨a2, n2, c2, t2⟩, ⟨a3, n3, c3, t3⟩, ⟨a4, n4, c4, o4⟩⟩) = false) := pb_f fun hh => p2 hh.2.2.1
        refine K2.out.mono ?_
        rintro e w2 ⟨rfl, hh2⟩
        obtain rfl := hh2.symm
        go_wp2
        go_ret
        exact ⟨by rw [N.out]; rfl, B0.out⟩
    · rw [pb_f p1] at K1
      have N : Hid (pb (stP ⟨2, ⟨a1, n1, c1, t1⟩, ⟨a2, n2, c2, t2⟩, ⟨a3, n3, c3, t3⟩, ⟨a4, n4, c4, o4⟩⟩) = false) := pb_f fun hh => p1 hh.2.1
      refine K1.out.mono ?_
      rintro e w2 ⟨rfl, hh2⟩
      obtain rfl := hh2.symm
      go_wp2
      go_ret
      exact ⟨by rw [N.out]; rfl, B0.out⟩
  have N : Hid (pb (stP ⟨f, ⟨a1, n1, c1, t1⟩, ⟨a2, n2, c2, t2⟩, ⟨a3, n3, c3, t3⟩, ⟨a4, n4, c4, o4⟩⟩) = false) := pb_f fun hh => by rcases hh.1 with h1 | h1 <;> contradiction
  have b1 : (f != 1) = true := by simpa using f1
  have b2 : (f != 2) = true := by simpa using f2
  have B1 := B0
  rw [hW0] at B1
  clear K1 K2 K3
  go_enter Tryd.func41, Tryd.ntmps41
  go_wp2
  go_ret
  exact ⟨by rw [N.out]; rfl, B1.out⟩
end Go.Proofs.YtmjolkagkeonfaaDoor
namespace Go.Proofs.YtmjolkagkeonfaaDoor
open Go.RowKit
/-! The program's line reader. -/
theorem eqW_t {b : ByteArray} {l : List UInt8} (h : isW b l) : (b.toList == l) = true := by
  rw [ByteArray.toList_eq]
  exact beq_iff_eq.2 h
theorem eqW_f {b : ByteArray} {l : List UInt8} (h : ¬ isW b l) : (b.toList == l) = false := by
  rw [ByteArray.toList_eq]
  exact beq_eq_false_iff_ne.2 h
end Go.Proofs.YtmjolkagkeonfaaDoor
namespace Go.Proofs.YtmjolkagkeonfaaDoor
open Go.RowKit
set_option linter.unusedVariables false
/-! Statements that a call owns. -/
theorem rowApart {w : World} {b g : Nat} {t u : TypeId} {cs ds : Array Value} (h : RowAt w b t cs) (h' : RowAt w g u ds) (ht : t ≠ u) : b ≠ g := by
  intro e
  subst e
  have := h.symm.trans h'
  simp at this
  exact ht this.2
theorem ownsRow_keep {w w' : World} {base : Nat} {t : TypeId} {k : Nat} {v : Value} {n : Nat} {xs : List Value} (h : w.ownsRow base t k v n xs) (hk : ∀ g cs, v.ownBlock = some g → RowAt w g t cs → RowAt w' g t cs) : w'.ownsRow base t k v n xs := by
  refine ⟨h.1, ?_⟩
  rcases h.2 with h0 | ⟨g, cap, cur, he, hb, hr, r⟩
  · exact Or.inl h0
  · exact Or.inr ⟨g, cap, cur, he, hb, hk g cur (by rw [he]; rfl) hr, r⟩
theorem ownsRow_row {w : World} {base : Nat} {t : TypeId} {k : Nat} {v : Value} {n : Nat} {xs : List Value} (h : w.ownsRow base t k v n xs) {g : Nat} (hg : v.ownBlock = some g) : base ≤ g ∧ g < w.heap.size ∧ ∃ cs, RowAt w g t cs := by
  rcases h.2 with ⟨rfl, _⟩ | ⟨g', cap, cur, rfl, hb, hr, r⟩
  · cases hg
  · have e : g' = g := Option.some.inj hg
    subst e
    exact ⟨hb, (show RowAt w g' t cur from hr).lt, cur, hr⟩
theorem OwnStrs.row {w : World} {base : Nat} {v : Value} {xs : List ByteArray} (h : OwnStrs w base v xs) {g : Nat} (hg : v.ownBlock = some g) : base ≤ g ∧ g < w.heap.size ∧ ∃ cs, RowAt w g 9 cs := ownsRow_row h hg
theorem OwnStrs.keep {w w' : World} {base : Nat} {v : Value} {xs : List ByteArray} (h : OwnStrs w base v xs) (hk : ∀ g cs, v.ownBlock = some g → RowAt w g 9 cs → RowAt w' g 9 cs) : OwnStrs w' base v xs := ownsRow_keep h hk
theorem OwnStrs.strsA {w : World} {base : Nat} {a : Option Addr} {n c : Nat} {xs : List ByteArray} (h : OwnStrs w base (.slice a n c) xs) : n = xs.length ∧ Strs w a n c (atB xs) := by
  rcases h.2 with ⟨h0, h1⟩ | ⟨g, cap, cur, he, hb, hr, hnc, hm, hsz, htk⟩
  · cases h0
    exact ⟨h1.symm, Nat.le_refl _, .inl rfl⟩
  · cases he
    have R : RowAt w g 9 cur := hr
    refine ⟨rfl, hnc, .inr ⟨g, 0, rfl, R.lt, fun i hi => ?_⟩⟩
    have := congrArg (·[i]?) htk
    simp only [List.getElem?_take] at this
    rw [if_pos (by omega), List.getElem?_map, atB_get hi] at this
    rw [R.cell (0 + i), Nat.zero_add]
    simpa using this
/-! Conditions. -/
def cnL (L : List Cn) : List Value := L.flatMap fun e => [.int .i64 e.kd, .string e.tx, .int .i64 e.tm]
theorem cnL_app (A B : List Cn) : cnL (A ++ B) = cnL A ++ cnL B := by simp [cnL]
theorem cnL_at : ∀ (L : List Cn) (k : Nat), k < L.length → (cnL L)[k * 3]? = some (.int .i64 (atC L k).kd) ∧ (cnL L)[k * 3 + 1]? = some (.string (atC L k).tx) ∧ (cnL L)[k * 3 + 2]? = some (.int .i64 (atC L k).tm)
  | [], k, h => by simp at h
  | e :: L, 0, h => ⟨rfl, rfl, rfl⟩
  | e :: L, k + 1, h => by
    have q := cnL_at L k (by simpa using h)
    have e1 : cnL (e :: L) = .int .i64 e.kd :: .string e.tx :: .int .i64 e.tm :: cnL L := rfl
    rw [e1, show (k + 1) * 3 = k * 3 + 1 + 1 + 1 by omega]
    simp only [List.getElem?_cons_succ]
    exact q
def OwnCn (w : World) (base : Nat) (v : Value) (L : List Cn) : Prop := w.ownsRow base 42 3 v L.length (cnL L)
theorem OwnCn.nil (w : World) (base : Nat) : OwnCn w base (.slice none 0 0) [] := ⟨rfl, .inl ⟨rfl, rfl⟩⟩
theorem OwnCn.keep {w w' : World} {base : Nat} {v : Value} {L : List Cn} (h : OwnCn w base v L) (hk : ∀ g cs, v.ownBlock = some g → RowAt w g 42 cs → RowAt w' g 42 cs) : OwnCn w' base v L := ownsRow_keep h hk
theorem OwnCn.below {w w' : World} {base : Nat} {v : Value} {L : List Cn} (h : OwnCn w base v L) (hb : Below w.heap.size w w') : OwnCn w' base v L := h.keep fun g cs _ hr => hr.below hb hr.lt
theorem OwnCn.row {w : World} {base : Nat} {v : Value} {L : List Cn} (h : OwnCn w base v L) {g : Nat} (hg : v.ownBlock = some g) : base ≤ g ∧ g < w.heap.size ∧ ∃ cs, RowAt w g 42 cs := ownsRow_row h hg
theorem OwnCn.slice {w : World} {base : Nat} {v : Value} {L : List Cn} (h : OwnCn w base v L) : ∃ a c, v = .slice a L.length c := by
  rcases h.2 with ⟨h0, h1⟩ | ⟨g, cap, cur, he, _⟩
  · exact ⟨_, _, by rw [h0, h1]⟩
  · exact ⟨_, _, he⟩
theorem OwnCn.cns {w : World} {base : Nat} {a : Option Addr} {n c : Nat} {L : List Cn} (h : OwnCn w base (.slice a n c) L) : n = L.length ∧ Cns w a n c (atC L) := by
  rcases h.2 with ⟨h0, h1⟩ | ⟨g, cap, cur, he, hb, hr, hnc, hm, hsz, htk⟩
  · cases h0
    exact ⟨h1.symm, Nat.le_refl _, .inl rfl⟩
  · cases he
    have R : RowAt w g 42 cur := hr
    refine ⟨rfl, hnc, .inr ⟨g, 0, rfl, R.lt, fun k hk => ?_⟩⟩
    have e1 : ∀ p, p < L.length * 3 → cur[p]? = (cnL L)[p]? := fun p hp => by
      have := congrArg (·[p]?) htk
      simp only [List.getElem?_take] at this
      rw [if_pos hp, Array.getElem?_toList] at this
      exact this
    have q := cnL_at L k hk
    simp only [Nat.zero_add]
    rw [R.cell, R.cell, R.cell, e1 _ (by omega), e1 _ (by omega), e1 _ (by omega)]
    exact q
theorem Tryd.infoCn2 : (Tryd.prog.info? 42).map (fun i => (i.zero, i.size, i.bytes)) = some (some (.agg #[.int .i64 0, .string ⟨#[]⟩, .int .i64 0]), 3, 32) := by kernel_rfl
/-- one condition, in a box just made, is appended -/
theorem append_cn {ops : Array Oper} {rest : List Oper} {o : Oper} {a : Act} {Q : Exit → Act → World → Prop} (base : Nat) (wr : World) (hgd : o.guard = none) (s x : Operand)
    (ho : o.op = .call { callee := .builtin .append, args := #[s, x], argTypes := #[31, 31] })
    (v : Value) (L : List Cn) (e : Cn) (hs : a.eval s = v) (hown : OwnCn wr base v L) (hsz : base ≤ wr.heap.size)
    (hx : a.eval x = .slice (some ⟨wr.heap.size, 0, none⟩) 1 1) (hlen : L.length ≤ 1048576)
    (h : ∀ v' w', OwnCn w' base v' (L ++ [e]) → wr.grownBy w' v.ownBlock → wpList Tryd.prog ops Q rest (a.put o.dst v') w') :
    wpList Tryd.prog ops Q (o :: rest) a (wr.alloc (.cells #[.int .i64 e.kd, .string e.tx, .int .i64 e.tm] 42)) := by
  obtain ⟨i0, hi, hz0, hz1, hz2⟩ := info_parts Tryd.infoCn2
  refine wpList_append_own _ hgd s x 31 ho base 42 i0 _ 3 32 Tryd.underlying31 hi hz0 hz1 hz2 rfl (by decide) v L.length _ hs (World.ownsRow.alloc hown _) ⟨wr.heap.size, 0, none⟩ 1 1 [.int .i64 e.kd, .string e.tx, .int .i64 e.tm] hx rfl ?_ ?_ ?_ ?_ ?_ ?_
  · intro j u hj
    have R := RowAt.new wr 42 #[.int .i64 e.kd, .string e.tx, .int .i64 e.tm]
    match j, hj with
    | 0, hj => simp at hj; subst hj; exact R.cell 0
    | 1, hj => simp at hj; subst hj; exact R.cell 1
    | 2, hj => simp at hj; subst hj; exact R.cell 2
  · intro u hu; simp at hu; rcases hu with rfl | rfl | rfl <;> rfl
  · unfold maxLen; omega
  · omega
  · simp; omega
  · intro v' w' h1 h2 h3
    refine h v' w' ?_ (grown_trans (World.grownBy_alloc wr _ _) h2)
    unfold OwnCn
    rw [cnL_app, List.length_append]
    exact h1
/-! Statements. -/
def stA (L : List St) (i : Nat) : St := L.getD i st0
def psA (L : List PS) (i : Nat) : PS := L.getD i ⟨0, [], [], [], []⟩
theorem psA_app {L : List PS} {p : PS} {i : Nat} (h : i < L.length) : psA (L ++ [p]) i = psA L i := by unfold psA; simp [List.getD_eq_getElem?_getD, List.getElem?_append_left h]
theorem psA_last (L : List PS) (p : PS) : psA (L ++ [p]) L.length = p := by unfold psA; simp [List.getD_eq_getElem?_getD]
theorem stA_app {L : List St} {p : St} {i : Nat} (h : i < L.length) : stA (L ++ [p]) i = stA L i := by unfold stA; simp [List.getD_eq_getElem?_getD, List.getElem?_append_left h]
theorem stA_last (L : List St) (p : St) : stA (L ++ [p]) L.length = p := by unfold stA; simp [List.getD_eq_getElem?_getD]
def stL (L : List St) : List Value := L.flatMap fun e => [.int .i64 e.ef, .slice e.wo.ad e.wo.n e.wo.cap, .slice e.wa.ad e.wa.n e.wa.cap, .slice e.wi.ad e.wi.n e.wi.cap, .slice e.cs.ad e.cs.n e.cs.cap]
theorem stL_app (A B : List St) : stL (A ++ B) = stL A ++ stL B := by simp [stL]
theorem stL_at : ∀ (L : List St) (k : Nat), k < L.length → (stL L)[k * 5]? = some (.int .i64 (stA L k).ef) ∧ (stL L)[k * 5 + 1]? = some (.slice (stA L k).wo.ad (stA L k).wo.n (stA L k).wo.cap) ∧ (stL L)[k * 5 + 2]? = some (.slice (stA L k).wa.ad (stA L k).wa.n (stA L k).wa.cap) ∧ (stL L)[k * 5 + 3]? = some (.slice (stA L k).wi.ad (stA L k).wi.n (stA L k).wi.cap) ∧ (stL L)[k * 5 + 4]? = some (.slice (stA L k).cs.ad (stA L k).cs.n (stA L k).cs.cap)
  | [], k, h => by simp at h
  | e :: L, 0, h => ⟨rfl, rfl, rfl, rfl, rfl⟩
  | e :: L, k + 1, h => by
    have q := stL_at L k (by simpa using h)
    have e1 : stL (e :: L) = .int .i64 e.ef :: .slice e.wo.ad e.wo.n e.wo.cap :: .slice e.wa.ad e.wa.n e.wa.cap :: .slice e.wi.ad e.wi.n e.wi.cap :: .slice e.cs.ad e.cs.n e.cs.cap :: stL L := rfl
    have e2 : stA (e :: L) (k + 1) = stA L k := by unfold stA; simp
    rw [e1, e2, show (k + 1) * 5 = k * 5 + 1 + 1 + 1 + 1 + 1 by omega]
    simp only [List.getElem?_cons_succ]
    exact q
def OwnSt (w : World) (base : Nat) (v : Value) (L : List St) : Prop := w.ownsRow base 33 5 v L.length (stL L)
theorem OwnSt.nil (w : World) (base : Nat) : OwnSt w base (.slice none 0 0) [] := ⟨rfl, .inl ⟨rfl, rfl⟩⟩
theorem OwnSt.empty (w : World) : OwnSt (w.alloc (.cells #[] 33)) w.heap.size (.slice (some ⟨w.heap.size, 0, none⟩) 0 0) [] :=
  World.ownsRow_made w #[] 0 (Nat.le_refl _) (by decide) rfl
theorem OwnSt.keep {w w' : World} {base : Nat} {v : Value} {L : List St} (h : OwnSt w base v L) (hk : ∀ g cs, v.ownBlock = some g → RowAt w g 33 cs → RowAt w' g 33 cs) : OwnSt w' base v L := ownsRow_keep h hk
theorem OwnSt.below {w w' : World} {base : Nat} {v : Value} {L : List St} (h : OwnSt w base v L) (hb : Below w.heap.size w w') : OwnSt w' base v L := h.keep fun g cs _ hr => hr.below hb hr.lt
theorem OwnSt.row {w : World} {base : Nat} {v : Value} {L : List St} (h : OwnSt w base v L) {g : Nat} (hg : v.ownBlock = some g) : base ≤ g ∧ g < w.heap.size ∧ ∃ cs, RowAt w g 33 cs := ownsRow_row h hg
theorem OwnSt.slice {w : World} {base : Nat} {v : Value} {L : List St} (h : OwnSt w base v L) : ∃ a c, v = .slice a L.length c := by
  rcases h.2 with ⟨h0, h1⟩ | ⟨g, cap, cur, he, _⟩
  · exact ⟨_, _, by rw [h0, h1]⟩
  · exact ⟨_, _, he⟩
theorem OwnSt.frow {w : World} {base : Nat} {a : Option Addr} {c : Nat} {L : List St} (h : OwnSt w base (.slice a L.length c) L) (hL : L.length ≠ 0) : ∃ g f, a = some ⟨g, 0, none⟩ ∧ base ≤ g ∧ L.length ≤ c ∧ FRow w g 33 (c * 5) f ∧ ∀ p, p < L.length * 5 → f p = stF (stA L) p := by
  rcases h.2 with ⟨_, h1⟩ | ⟨g, cap, cur, he, hb, hr, hnc, hm, hsz, htk⟩
  · exact absurd h1 hL
  · injection he with e1 e2 e3
    subst e3
    have e0 : ∀ p, p < L.length * 5 → cur[p]? = (stL L)[p]? := fun p hp => by
      have q := congrArg (·[p]?) htk
      simp only [List.getElem?_take] at q
      rw [if_pos hp, Array.getElem?_toList] at q
      exact q
    have hd : ∀ p v, cur[p]? = some v → cur.getD p (.int .i64 0) = v := fun p v hp => by simp [Array.getD_eq_getD_getElem?, hp]
    refine ⟨g, fun p => cur.getD p (.int .i64 0), e1, hb, hnc, FRow.of (show RowAt w g 33 cur from hr) hsz fun p hp => ?_, fun p hp => ?_⟩
    · rw [Array.getElem?_eq_getElem (by omega)]
      simp [Array.getD, show p < cur.size by omega]
    · obtain ⟨q0, q1, q2, q3, q4⟩ := stL_at L (p / 5) (by omega)
      rcases (by omega : p = p / 5 * 5 ∨ p = p / 5 * 5 + 1 ∨ p = p / 5 * 5 + 2 ∨ p = p / 5 * 5 + 3 ∨ p = p / 5 * 5 + 4) with e | e | e | e | e
      · exact hd _ _ (by rw [e0 _ hp, e, q0, stF0])
      · exact hd _ _ (by rw [e0 _ hp, e, q1, stF1])
      · exact hd _ _ (by rw [e0 _ hp, e, q2, stF2])
      · exact hd _ _ (by rw [e0 _ hp, e, q3, stF3])
      · exact hd _ _ (by rw [e0 _ hp, e, q4, stF4])
theorem Tryd.infoSt2 : (Tryd.prog.info? 33).map (fun i => (i.zero, i.size, i.bytes)) = some (some (.agg #[.int .i64 0, .slice none 0 0, .slice none 0 0, .slice none 0 0, .slice none 0 0]), 5, 104) := by kernel_rfl
/-- one statement, in a box just made, is appended -/
theorem append_st {ops : Array Oper} {rest : List Oper} {o : Oper} {a : Act} {Q : Exit → Act → World → Prop} (base : Nat) (wr : World) (hgd : o.guard = none) (s x : Operand)
    (ho : o.op = .call { callee := .builtin .append, args := #[s, x], argTypes := #[23, 23] })
    (v : Value) (L : List St) (e : St) (hs : a.eval s = v) (hown : OwnSt wr base v L) (hsz : base ≤ wr.heap.size)
    (hx : a.eval x = .slice (some ⟨wr.heap.size, 0, none⟩) 1 1) (hlen : L.length ≤ 1048576)
    (h : ∀ v' w', OwnSt w' base v' (L ++ [e]) → wr.grownBy w' v.ownBlock → wpList Tryd.prog ops Q rest (a.put o.dst v') w') :
    wpList Tryd.prog ops Q (o :: rest) a (wr.alloc (.cells #[.int .i64 e.ef, .slice e.wo.ad e.wo.n e.wo.cap, .slice e.wa.ad e.wa.n e.wa.cap, .slice e.wi.ad e.wi.n e.wi.cap, .slice e.cs.ad e.cs.n e.cs.cap] 33)) := by
  obtain ⟨i0, hi, hz0, hz1, hz2⟩ := info_parts Tryd.infoSt2
  refine wpList_append_own _ hgd s x 23 ho base 33 i0 _ 5 104 Tryd.underlying23 hi hz0 hz1 hz2 rfl (by decide) v L.length _ hs (World.ownsRow.alloc hown _) ⟨wr.heap.size, 0, none⟩ 1 1 [.int .i64 e.ef, .slice e.wo.ad e.wo.n e.wo.cap, .slice e.wa.ad e.wa.n e.wa.cap, .slice e.wi.ad e.wi.n e.wi.cap, .slice e.cs.ad e.cs.n e.cs.cap] hx rfl ?_ ?_ ?_ ?_ ?_ ?_
  · intro j u hj
    have R := RowAt.new wr 33 #[.int .i64 e.ef, .slice e.wo.ad e.wo.n e.wo.cap, .slice e.wa.ad e.wa.n e.wa.cap, .slice e.wi.ad e.wi.n e.wi.cap, .slice e.cs.ad e.cs.n e.cs.cap]
    match j, hj with
    | 0, hj => simp at hj; subst hj; exact R.cell 0
    | 1, hj => simp at hj; subst hj; exact R.cell 1
    | 2, hj => simp at hj; subst hj; exact R.cell 2
    | 3, hj => simp at hj; subst hj; exact R.cell 3
    | 4, hj => simp at hj; subst hj; exact R.cell 4
  · intro u hu; simp at hu; rcases hu with rfl | rfl | rfl | rfl | rfl <;> rfl
  · unfold maxLen; omega
  · omega
  · simp; omega
  · intro v' w' h1 h2 h3
    refine h v' w' ?_ (grown_trans (World.grownBy_alloc wr _ _) h2)
    unfold OwnSt
    rw [stL_app, List.length_append]
    exact h1
/-- a value's own block lies below hi -/
def blt (v : Value) (hi : Nat) : Prop := ∀ g, v.ownBlock = some g → g < hi
/-- a statement's value stands for p; its slices lie in blocks from lo on and below hi, one behind the other -/
structure PsAt (w : World) (lo hi : Nat) (s : St) (p : PS) : Prop where
  ef : s.ef = p.ef
  mem : ∃ x1 x2 x3, lo ≤ x1 ∧ x1 ≤ x2 ∧ x2 ≤ x3 ∧ x3 ≤ hi ∧ (OwnStrs w lo (.slice s.wo.ad s.wo.n s.wo.cap) p.wo ∧ blt (.slice s.wo.ad s.wo.n s.wo.cap) x1) ∧ (OwnStrs w x1 (.slice s.wa.ad s.wa.n s.wa.cap) p.wa ∧ blt (.slice s.wa.ad s.wa.n s.wa.cap) x2) ∧ (OwnStrs w x2 (.slice s.wi.ad s.wi.n s.wi.cap) p.wi ∧ blt (.slice s.wi.ad s.wi.n s.wi.cap) x3) ∧ (OwnCn w x3 (.slice s.cs.ad s.cs.n s.cs.cap) p.cs ∧ blt (.slice s.cs.ad s.cs.n s.cs.cap) hi)
  t1 : s.wo.ts = atB p.wo
  t2 : s.wa.ts = atB p.wa
  t3 : s.wi.ts = atB p.wi
  o4 : s.cs.o = atC p.cs
theorem PsAt.keep {w w' : World} {lo hi : Nat} {s : St} {p : PS} (h : PsAt w lo hi s p) (hk : ∀ g t cs, lo ≤ g → g < hi → (t = 9 ∨ t = 42) → RowAt w g t cs → RowAt w' g t cs) : PsAt w' lo hi s p := by
  obtain ⟨x1, x2, x3, l1, l2, l3, l4, ⟨a1, b1⟩, ⟨a2, b2⟩, ⟨a3, b3⟩, ⟨a4, b4⟩⟩ := h.mem
  exact ⟨h.ef, ⟨x1, x2, x3, l1, l2, l3, l4, ⟨a1.keep fun g cs hg hr => hk g _ cs (a1.row hg).1 (by have := b1 g hg; omega) (.inl rfl) hr, b1⟩, ⟨a2.keep fun g cs hg hr => hk g _ cs (by have := (a2.row hg).1; omega) (by have := b2 g hg; omega) (.inl rfl) hr, b2⟩, ⟨a3.keep fun g cs hg hr => hk g _ cs (by have := (a3.row hg).1; omega) (by have := b3 g hg; omega) (.inl rfl) hr, b3⟩, ⟨a4.keep fun g cs hg hr => hk g _ cs (by have := (a4.row hg).1; omega) (by have := b4 g hg; omega) (.inr rfl) hr, b4⟩⟩, h.t1, h.t2, h.t3, h.o4⟩
theorem PsAt.below {w w' : World} {lo hi : Nat} {s : St} {p : PS} (h : PsAt w lo hi s p) (hb : Below w.heap.size w w') : PsAt w' lo hi s p := h.keep fun g t cs _ _ _ hr => hr.below hb hr.lt
theorem PsAt.le {w : World} {lo hi : Nat} {s : St} {p : PS} (h : PsAt w lo hi s p) : lo ≤ hi := by
  obtain ⟨x1, x2, x3, l1, l2, l3, l4, _⟩ := h.mem
  omega
theorem PsAt.lens {w : World} {lo hi : Nat} {s : St} {p : PS} (h : PsAt w lo hi s p) : s.wo.n = p.wo.length ∧ s.wa.n = p.wa.length ∧ s.wi.n = p.wi.length ∧ s.cs.n = p.cs.length := by
  obtain ⟨x1, x2, x3, l1, l2, l3, l4, ⟨a1, b1⟩, ⟨a2, b2⟩, ⟨a3, b3⟩, ⟨a4, b4⟩⟩ := h.mem
  exact ⟨a1.strsA.1, a2.strsA.1, a3.strsA.1, a4.cns.1⟩
theorem PsAt.in {w : World} {lo hi : Nat} {s : St} {p : PS} (h : PsAt w lo hi s p) : StIn w s := by
  obtain ⟨x1, x2, x3, l1, l2, l3, l4, ⟨a1, b1⟩, ⟨a2, b2⟩, ⟨a3, b3⟩, ⟨a4, b4⟩⟩ := h.mem
  exact ⟨by rw [h.t1]; exact a1.strsA.2, by rw [h.t2]; exact a2.strsA.2, by rw [h.t3]; exact a3.strsA.2, by rw [h.o4]; exact a4.cns.2⟩
theorem PsAt.eq {w w' : World} {lo hi lo' hi' : Nat} {s s' : St} {p : PS} (h : PsAt w lo hi s p) (h' : PsAt w' lo' hi' s' p) : StEq s s' := by
  obtain ⟨n1, n2, n3, n4⟩ := h.lens
  obtain ⟨m1, m2, m3, m4⟩ := h'.lens
  exact ⟨h.ef.trans h'.ef.symm, n1.trans m1.symm, h.t1.trans h'.t1.symm, n2.trans m2.symm, h.t2.trans h'.t2.symm, n3.trans m3.symm, h.t3.trans h'.t3.symm, n4.trans m4.symm, h.o4.trans h'.o4.symm⟩
theorem PsAt.iff {w : World} {lo hi : Nat} {s : St} {p : PS} (h : PsAt w lo hi s p) : stP s ↔ psP p := by
  obtain ⟨n1, n2, n3, n4⟩ := h.lens
  unfold stP psP
  rw [h.ef, n1, n2, n3, n4, h.t1, h.t2, h.t3, h.o4]
/-- sizes -/
def lsB (L : List ByteArray) : Prop := L.length ≤ 1048576 ∧ ∀ x ∈ L, x.size ≤ 1048576
def cnB (L : List Cn) : Prop := L.length ≤ 1048576 ∧ ∀ x ∈ L, x.tx.size ≤ 1048576
def psB (p : PS) : Prop := lsB p.wo ∧ lsB p.wa ∧ lsB p.wi ∧ cnB p.cs
theorem lsB_at {L : List ByteArray} (h : lsB L) (i : Nat) (hi : i < L.length) : (atB L i).size ≤ 1048576 := h.2 _ (by have := atB_get hi; exact List.mem_of_getElem? this)
theorem cnB_at {L : List Cn} (h : cnB L) (i : Nat) (hi : i < L.length) : (atC L i).tx.size ≤ 1048576 := h.2 _ (by have := atC_get hi; exact List.mem_of_getElem? this)
theorem PsAt.stB {w : World} {lo hi : Nat} {s : St} {p : PS} (h : PsAt w lo hi s p) (hp : psB p) : StB s 1048576 := by
  obtain ⟨n1, n2, n3, n4⟩ := h.lens
  obtain ⟨p1, p2, p3, p4⟩ := hp
  exact ⟨⟨by rw [n1]; exact p1.1, fun i hi => by rw [h.t1]; exact lsB_at p1 i (by omega)⟩, ⟨by rw [n2]; exact p2.1, fun i hi => by rw [h.t2]; exact lsB_at p2 i (by omega)⟩, ⟨by rw [n3]; exact p3.1, fun i hi => by rw [h.t3]; exact lsB_at p3 i (by omega)⟩, ⟨by rw [n4]; exact p4.1, fun i hi => by rw [h.o4]; exact cnB_at p4 i (by omega)⟩⟩
/-- a policy: its statements lie one behind the other -/
structure PolR (w : World) (B : Nat) (v : Value) (L : List PS) (Rs : List St) (X : Nat → Nat) : Prop where
  own : OwnSt w B v Rs
  len : Rs.length = L.length
  lo : B ≤ X 0
  hi : X L.length ≤ w.heap.size
  at_ : ∀ i, i < L.length → PsAt w (X i) (X (i + 1)) (stA Rs i) (psA L i)
theorem PolR.below {w w' : World} {B : Nat} {v : Value} {L : List PS} {Rs : List St} {X : Nat → Nat} (h : PolR w B v L Rs X) (hb : Below w.heap.size w w') : PolR w' B v L Rs X :=
  ⟨h.own.below hb, h.len, h.lo, Nat.le_trans h.hi hb.size, fun i hi => (h.at_ i hi).below hb⟩
def PolAt (w : World) (B : Nat) (v : Value) (L : List PS) : Prop := ∃ Rs X, PolR w B v L Rs X
theorem PolAt.below {w w' : World} {B : Nat} {v : Value} {L : List PS} (h : PolAt w B v L) (hb : Below w.heap.size w w') : PolAt w' B v L := by
  obtain ⟨Rs, X, h⟩ := h
  exact ⟨Rs, X, h.below hb⟩
theorem PolAt.nil (w : World) (B : Nat) (hB : B ≤ w.heap.size) : PolAt w B (.slice none 0 0) [] := ⟨[], fun _ => B, OwnSt.nil _ _, rfl, Nat.le_refl _, hB, fun i hi => absurd hi (by simp)⟩
theorem PolAt.empty (w : World) : PolAt (w.alloc (.cells #[] 33)) w.heap.size (.slice (some ⟨w.heap.size, 0, none⟩) 0 0) [] := ⟨[], fun _ => w.heap.size, OwnSt.empty _, rfl, Nat.le_refl _, by rw [size_al]; show w.heap.size ≤ _; omega, fun i hi => absurd hi (by simp)⟩
theorem PolR.mono {w : World} {B : Nat} {v : Value} {L : List PS} {Rs : List St} {X : Nat → Nat} (h : PolR w B v L Rs X) : ∀ i j, i ≤ j → j ≤ L.length → X i ≤ X j := by
  intro i j hij
  induction j with
  | zero => intro _; rw [show i = 0 by omega]; exact Nat.le_refl _
  | succ j ih =>
    intro hj
    by_cases e : i = j + 1
    · rw [e]; exact Nat.le_refl _
    · exact Nat.le_trans (ih (by omega) (by omega)) (h.at_ j (by omega)).le
/-- one more: behind an append that gave v' -/
theorem PolR.snoc {w w' : World} {B lo hi : Nat} {v v' : Value} {L : List PS} {Rs : List St} {X : Nat → Nat} {s : St} {p : PS} (h : PolR w B v L Rs X) (hp : PsAt w lo hi s p) (hlo : X L.length ≤ lo) (hhi : hi ≤ w.heap.size) (ho : OwnSt w' B v' (Rs ++ [s])) (hg : w.grownBy w' v.ownBlock) : PolAt w' B v' (L ++ [p]) := by
  have kp : ∀ g t cs, (t = 9 ∨ t = 42) → RowAt w g t cs → RowAt w' g t cs := fun g t cs ht hr => by
    refine (hg.block g hr.lt fun e => ?_).trans hr
    obtain ⟨_, _, ds, hd⟩ := h.own.row e.symm
    exact rowApart hr hd (by rcases ht with rfl | rfl <;> decide) rfl
  refine ⟨Rs ++ [s], fun i => if i ≤ L.length then X i else hi, ho, by simp [h.len], by simp [h.lo], ?_, fun i hi => ?_⟩
  · rw [List.length_append]
    show (if L.length + 1 ≤ L.length then _ else hi) ≤ _
    rw [if_neg (by omega)]
    exact Nat.le_trans hhi hg.size
  · rw [List.length_append] at hi
    have hi : i < L.length + 1 := hi
    by_cases e : i < L.length
    · rw [if_pos (by omega), if_pos (by omega), psA_app e, stA_app (by rw [h.len]; exact e)]
      exact (h.at_ i e).keep fun g t cs _ _ ht hr => kp g t cs ht hr
    · have e2 : i = L.length := by omega
      subst e2
      rw [if_pos (Nat.le_refl _), if_neg (by omega), psA_last]
      conv => arg 4; rw [← h.len, stA_last]
      have q := hp.keep (w' := w') fun g t cs _ _ ht hr => kp g t cs ht hr
      obtain ⟨x1, x2, x3, l1, l2, l3, l4, ⟨a1, b1⟩, r⟩ := q.mem
      refine ⟨q.ef, ⟨x1, x2, x3, by omega, l2, l3, l4, ⟨?_, b1⟩, r⟩, q.t1, q.t2, q.t3, q.o4⟩
      refine ⟨a1.1, ?_⟩
      rcases a1.2 with h0 | ⟨g, cap, cur, he, hb, r⟩
      · exact .inl h0
      · exact .inr ⟨g, cap, cur, he, by omega, r⟩
end Go.Proofs.YtmjolkagkeonfaaDoor
namespace Go.Proofs.YtmjolkagkeonfaaDoor
open Go.RowKit
set_option linter.unusedVariables false
/-! The program's line reader: lists and conditions. -/
theorem atB_mem {L : List ByteArray} {i : Nat} (h : i < L.length) : atB L i ∈ L := List.mem_of_getElem? (atB_get h)
theorem splA_mem (c : UInt8) : ∀ (l cur x : List UInt8), x ∈ splA c cur l → x.length ≤ cur.length + l.length
  | [], cur, x, h => by simp [splA] at h; subst h; simp
  | y :: r, cur, x, h => by
    unfold splA at h
    split at h
    · rcases List.mem_cons.1 h with rfl | h
      · simp
      · have := splA_mem c r [] x h; simp at this ⊢; omega
    · have := splA_mem c r (cur ++ [y]) x h; simp at this ⊢; omega
theorem splB_B (c : UInt8) {s : ByteArray} (hs : s.size ≤ 1000000) : lsB (splB c s) := by
  unfold splB
  refine ⟨?_, ?_⟩
  · rw [List.length_map]
    have := (splA_len c s.data.toList []).2
    rw [baLen] at this
    omega
  · intro x hx
    obtain ⟨y, hy, rfl⟩ := List.mem_map.1 hx
    have := splA_mem c _ _ _ hy
    rw [baLen] at this
    rw [ofL_size]
    simp at this
    omega
theorem splB_len (c : UInt8) (s : ByteArray) : 1 ≤ (splB c s).length ∧ (splB c s).length ≤ s.size + 1 := by
  unfold splB
  rw [List.length_map]
  have := splA_len c s.data.toList []
  rw [baLen] at this
  exact this
theorem OwnStrs.mono {w : World} {base base' : Nat} {v : Value} {xs : List ByteArray} (h : OwnStrs w base v xs) (hb : base' ≤ base) : OwnStrs w base' v xs := by
  refine ⟨h.1, ?_⟩
  rcases h.2 with h0 | ⟨g, cap, cur, he, hbg, r⟩
  · exact Or.inl h0
  · exact Or.inr ⟨g, cap, cur, he, by omega, r⟩
end Go.Proofs.YtmjolkagkeonfaaDoor
namespace Go.Proofs.YtmjolkagkeonfaaDoor
open Go.RowKit
set_option linter.unusedVariables false
/-! The program's line reader: a condition, a statement. -/
end Go.Proofs.YtmjolkagkeonfaaDoor
namespace Go.Proofs.YtmjolkagkeonfaaDoor
open Go.RowKit
set_option linter.unusedVariables false
/-! The program's line reader: a statement. -/
theorem OwnStrs.farX {w w' : World} {base x : Nat} {v : Value} {xs : List ByteArray} (h : OwnStrs w base v xs) (hg : w.grownBy w' (some x)) (hx : x < base) : OwnStrs w' base v xs :=
  h.keep fun g cs e hr => (hg.block g hr.lt fun q => by have := (h.row e).1; have := Option.some.inj q; omega).trans hr
theorem OwnCn.farX {w w' : World} {base x : Nat} {v : Value} {xs : List Cn} (h : OwnCn w base v xs) (hg : w.grownBy w' (some x)) (hx : x < base) : OwnCn w' base v xs :=
  h.keep fun g cs e hr => (hg.block g hr.lt fun q => by have := (h.row e).1; have := Option.some.inj q; omega).trans hr
theorem grown_setRow {w : World} {x : Nat} {c : Array Value} : w.grownBy (w.setRow x c) (some x) := ⟨rfl, rfl, rfl, by rw [setRow_size]; exact Nat.le_refl _, fun k hk hne => setRow_other w x k c (fun e => hne (by rw [e]))⟩
/-- three lists of texts -/
structure O3 (w : World) (x0 x1 x2 x3 : Nat) (v1 v2 v3 : Value) (S1 S2 S3 : List ByteArray) : Prop where
  o1 : OwnStrs w x0 v1 S1
  o2 : OwnStrs w x1 v2 S2
  o3 : OwnStrs w x2 v3 S3
  b1 : blt v1 x1
  b2 : blt v2 x2
  b3 : blt v3 x3
  le : x0 ≤ x1 ∧ x1 ≤ x2 ∧ x2 ≤ x3
theorem O3.far {w w' : World} {x0 x1 x2 x3 : Nat} {v1 v2 v3 : Value} {S1 S2 S3 : List ByteArray} (h : O3 w x0 x1 x2 x3 v1 v2 v3 S1 S2 S3) {r : Option Nat} (hg : w.grownBy w' r) (hr : ∀ x, r = some x → x < x0 ∨ x3 ≤ x) : O3 w' x0 x1 x2 x3 v1 v2 v3 S1 S2 S3 := by
  have q := h.le
  refine ⟨h.o1.keep fun g cs e k => (hg.block g k.lt fun z => ?_).trans k, h.o2.keep fun g cs e k => (hg.block g k.lt fun z => ?_).trans k, h.o3.keep fun g cs e k => (hg.block g k.lt fun z => ?_).trans k, h.b1, h.b2, h.b3, h.le⟩
  · have := hr g z.symm; have := (h.o1.row e).1; have := h.b1 g e; omega
  · have := hr g z.symm; have := (h.o2.row e).1; have := h.b2 g e; omega
  · have := hr g z.symm; have := (h.o3.row e).1; have := h.b3 g e; omega
theorem not_ln1 {ws : List ByteArray} (h : ¬ frmP ws) : ¬ lnP ws := fun q => h q.1
end Go.Proofs.YtmjolkagkeonfaaDoor
namespace Go.Proofs.YtmjolkagkeonfaaDoor
open Go.RowKit
/-! The program's checkStatement, checkStatements: they throw. -/
/-- a fault thrown -/
def Thrown (e : Ending) : Prop := ∃ c l : Int, ¬ c = 0 ∧ e = .panicked [{ v := .iface 54 (.agg #[.int .i64 c, .int .i64 l]), recovered := false }]
set_option maxRecDepth 20000 in
set_option maxHeartbeats 4000000 in
theorem iChk_ok (s : St) (hs : StB s 1048576) (l : Int) (i : Nat) (hp : stP s) (hi : i < 50) (hn : s.cs.n ≤ 10) (w : World) (h : StIn w s) :
    Calls Tryd.prog 34 #[.agg #[.int .i64 s.ef, .slice s.wo.ad s.wo.n s.wo.cap, .slice s.wa.ad s.wa.n s.wa.cap, .slice s.wi.ad s.wi.n s.wi.cap, .slice s.cs.ad s.cs.n s.cs.cap], .int .i64 l, .int .i64 (i : Int)] w fun e w' => e = .returned (.tuple #[]) ∧ Below w.heap.size w w' := by
  have B0 : Hid (Below w.heap.size w (w.alloc (.cells #[.int .i64 s.ef, .slice s.wo.ad s.wo.n s.wo.cap, .slice s.wa.ad s.wa.n s.wa.cap, .slice s.wi.ad s.wi.n s.wi.cap, .slice s.cs.ad s.cs.n s.cs.cap] 33))) := balCn (Below.refl _ _) _
  have K := hid (iStF s hs _ (h.below B0.out))
  rw [pb_t hp] at K
  obtain ⟨W0, hW0⟩ : ∃ W, W = w.alloc (.cells #[.int .i64 s.ef, .slice s.wo.ad s.wo.n s.wo.cap, .slice s.wa.ad s.wa.n s.wa.cap, .slice s.wi.ad s.wi.n s.wi.cap, .slice s.cs.ad s.cs.n s.cs.cap] 33) := ⟨_, rfl⟩
  have A0 : Hid (RowAt W0 w.heap.size 33 #[.int .i64 s.ef, .slice s.wo.ad s.wo.n s.wo.cap, .slice s.wa.ad s.wa.n s.wa.cap, .slice s.wi.ad s.wi.n s.wi.cap, .slice s.cs.ad s.cs.n s.cs.cap]) := by rw [hW0]; exact RowAt.new _ _ _
  rw [← hW0] at B0 K
  clear hp hs h
  obtain ⟨f, ⟨a1, n1, c1, t1⟩, ⟨a2, n2, c2, t2⟩, ⟨a3, n3, c3, t3⟩, ⟨a4, n4, c4, o4⟩⟩ := s
  dsimp only at B0 K hW0 A0 hn ⊢
  go_enter Tryd.func34, Tryd.ntmps34
  go_wp2_with fail
  rw [← hW0]
  clear hW0
  refine K.out.mono ?_
  rintro e w2 ⟨rfl, hb2⟩
  have x4 := (hb2.cell (p := ⟨w.heap.size, 4, none⟩) A0.out.lt).trans (A0.out.cell 4)
  have B2 := hid (B0.out.trans (hb2.mono B0.out.size))
  clear hb2 A0 B0 K
  have d1 : ¬ (50 : Int) ≤ (i : Int) := by omega
  have d2 : ¬ (10 : Int) < (n4 : Int) := by omega
  go_wp2
  go_end0
  exact ⟨rfl, B2.out⟩
set_option maxRecDepth 20000 in
set_option maxHeartbeats 4000000 in
theorem iChk_no (s : St) (hs : StB s 1048576) (l : Int) (i : Nat) (hi0 : i ≤ 1048576) (hp : ¬ (stP s ∧ i < 50 ∧ s.cs.n ≤ 10)) (w : World) (h : StIn w s) :
    Calls Tryd.prog 34 #[.agg #[.int .i64 s.ef, .slice s.wo.ad s.wo.n s.wo.cap, .slice s.wa.ad s.wa.n s.wa.cap, .slice s.wi.ad s.wi.n s.wi.cap, .slice s.cs.ad s.cs.n s.cs.cap], .int .i64 l, .int .i64 (i : Int)] w fun e w' => Thrown e ∧ Below w.heap.size w w' := by
  have B0 : Hid (Below w.heap.size w (w.alloc (.cells #[.int .i64 s.ef, .slice s.wo.ad s.wo.n s.wo.cap, .slice s.wa.ad s.wa.n s.wa.cap, .slice s.wi.ad s.wi.n s.wi.cap, .slice s.cs.ad s.cs.n s.cs.cap] 33))) := balCn (Below.refl _ _) _
  have K := hid (iStF s hs _ (h.below B0.out))
  obtain ⟨W0, hW0⟩ : ∃ W, W = w.alloc (.cells #[.int .i64 s.ef, .slice s.wo.ad s.wo.n s.wo.cap, .slice s.wa.ad s.wa.n s.wa.cap, .slice s.wi.ad s.wi.n s.wi.cap, .slice s.cs.ad s.cs.n s.cs.cap] 33) := ⟨_, rfl⟩
  have A0 : Hid (RowAt W0 w.heap.size 33 #[.int .i64 s.ef, .slice s.wo.ad s.wo.n s.wo.cap, .slice s.wa.ad s.wa.n s.wa.cap, .slice s.wi.ad s.wi.n s.wi.cap, .slice s.cs.ad s.cs.n s.cs.cap]) := by rw [hW0]; exact RowAt.new _ _ _
  rw [← hW0] at B0 K
  have hn : s.cs.n ≤ 1048576 := hs.cs.1
  clear hs h
  by_cases q : stP s
  · rw [pb_t q] at K
    have hq : ¬ (i < 50 ∧ s.cs.n ≤ 10) := fun hh => hp ⟨q, hh⟩
    clear hp q
    obtain ⟨f, ⟨a1, n1, c1, t1⟩, ⟨a2, n2, c2, t2⟩, ⟨a3, n3, c3, t3⟩, ⟨a4, n4, c4, o4⟩⟩ := s
    dsimp only at B0 K hW0 A0 hn hq ⊢
    go_enter Tryd.func34, Tryd.ntmps34
    go_wp2_with fail
    rw [← hW0]
    clear hW0
    refine K.out.mono ?_
    rintro e w2 ⟨rfl, hb2⟩
    have x4 := (hb2.cell (p := ⟨w.heap.size, 4, none⟩) A0.out.lt).trans (A0.out.cell 4)
    have B2 := hid (B0.out.trans (hb2.mono B0.out.size))
    clear hb2 A0 B0 K
    by_cases q1 : 50 ≤ i
    · have d1 : (50 : Int) ≤ (i : Int) := by omega
      go_wp2
      exact ⟨rfl, ⟨4, l, by decide, rfl⟩, B2.out⟩
    · have d1 : ¬ (50 : Int) ≤ (i : Int) := by omega
      have d2 : (10 : Int) < (n4 : Int) := by omega
      go_wp2
      exact ⟨rfl, ⟨4, l, by decide, rfl⟩, B2.out⟩
  · rw [pb_f q] at K
    clear hp q
    obtain ⟨f, ⟨a1, n1, c1, t1⟩, ⟨a2, n2, c2, t2⟩, ⟨a3, n3, c3, t3⟩, ⟨a4, n4, c4, o4⟩⟩ := s
    dsimp only at B0 K hW0 A0 hn ⊢
    go_enter Tryd.func34, Tryd.ntmps34
    go_wp2_with fail
    rw [← hW0]
    clear hW0
    refine K.out.mono ?_
    rintro e w2 ⟨rfl, hb2⟩
    have B2 := hid (B0.out.trans (hb2.mono B0.out.size))
    clear hb2 A0 B0 K
    go_wp2
    exact ⟨rfl, ⟨3, l, by decide, rfl⟩, B2.out⟩
theorem Thrown.ex {e : Ending} (h : Thrown e) : ∃ c l : Int, ¬ c = 0 ∧ e = .panicked [{ v := .iface 54 (.agg #[.int .i64 c, .int .i64 l]), recovered := false }] := h
set_option maxRecDepth 20000 in
set_option maxHeartbeats 4000000 in
theorem iChks (a : Option Addr) (m cap : Nat) (R : Nat → St) (hm : m ≤ 1048576) (hs : ∀ k, k < m → StB (R k) 1048576) (w : World) (h : Sts w a m cap R) :
    Calls Tryd.prog 22 #[.slice a m cap] w fun e w' => ((plP m R ∧ e = .returned (.tuple #[])) ∨ (¬ plP m R ∧ Thrown e)) ∧ Below w.heap.size w w' := by
  have HH := hid h
  have HS := hid hs
  clear h hs
  go_enter Tryd.func22, Tryd.ntmps22
  go_wp2_with fail
  go_loopw [6] (fun v wr => ∃ k : Nat, k ≤ m ∧ k ≤ 50 ∧ v = .int .i64 (k : Int) ∧ (∀ i, i < k → stP (R i) ∧ (R i).cs.n ≤ 10) ∧ Below w.heap.size w wr) (fun v _ => m - (intOf v).toNat)
  case atStart => exact ⟨0, Nat.zero_le _, Nat.zero_le _, rfl, fun i hi => absurd hi (Nat.not_lt_zero _), Below.refl _ _⟩
  case round =>
    obtain ⟨k, hk, hk50, rfl, hr, hB⟩ := hrel
    have HR := hid hr
    have HB := hid hB
    clear hr hB
    by_cases hlt : k < m
    · have d3 : (k : Int) < (m : Int) := by omega
      have k0 : (0 : Int) ≤ (k : Int) := by omega
      rcases (HH.out.below HB.out).2.1 with h00 | ⟨b, off, rfl, hbl, hc⟩
      · omega
      obtain ⟨x0, x1, x2, x3, x4⟩ := hc k hlt
      have hb5 := hid (HS.out k hlt)
      have hin := hid ((HH.out.below HB.out).2.2 k hlt)
      clear hc
      by_cases q : stP (R k) ∧ k < 50 ∧ (R k).cs.n ≤ 10
      · have N : Hid (∀ i, i < k + 1 → stP (R i) ∧ (R i).cs.n ≤ 10) := fun i hi => by
          by_cases e : i = k
          · subst e; exact ⟨q.1, q.2.2⟩
          · exact HR.out i (by omega)
        have q50 := q.2.1
        have K := fun (l : Int) w (hi : StIn w (R k)) => hid (iChk_ok (R k) hb5.out l k q.1 q.2.1 q.2.2 w hi)
        clear q hb5
        generalize R k = T at x0 x1 x2 x3 x4 K hin
        obtain ⟨f, ⟨a1, n1, c1, t1⟩, ⟨a2, n2, c2, t2⟩, ⟨a3, n3, c3, t3⟩, ⟨a4, n4, c4, o4⟩⟩ := T
        dsimp only at x0 x1 x2 x3 x4 K
        obtain ⟨W2, hW2⟩ : ∃ W, W = wr.alloc (.cells #[.int .i64 f, .slice a1 n1 c1, .slice a2 n2 c2, .slice a3 n3 c3, .slice a4 n4 c4] 33) := ⟨_, rfl⟩
        have B2 : Hid (Below w.heap.size w W2) := by rw [hW2]; exact HB.out.alloc HB.out.size _
        have I2 : Hid (StIn W2 ⟨f, ⟨a1, n1, c1, t1⟩, ⟨a2, n2, c2, t2⟩, ⟨a3, n3, c3, t3⟩, ⟨a4, n4, c4, o4⟩⟩) := by rw [hW2]; exact hin.out.below (balCn (Below.refl _ _) _)
        go_wp2_with fail
        rw [← hW2]
        clear hW2
        refine (K _ _ I2.out).out.mono ?_
        rintro e w3 ⟨rfl, hb3⟩
        have B3 := hid (B2.out.trans (hb3.mono B2.out.size))
        clear hb3 x0 x1 x2 x3 x4
        go_wp2
        go_roundw
        case rel => exact ⟨k + 1, by omega, by omega, by go_num, N.out, B3.out⟩
        case measure => simp [intOf]; omega
      · have N : Hid (¬ plP m R) := fun hh => q ⟨(hh.2 k hlt).1, by have := hh.1; omega, (hh.2 k hlt).2⟩
        have K := fun (l : Int) w (hi : StIn w (R k)) => hid (iChk_no (R k) hb5.out l k (by omega) q w hi)
        clear q hb5
        generalize R k = T at x0 x1 x2 x3 x4 K hin
        obtain ⟨f, ⟨a1, n1, c1, t1⟩, ⟨a2, n2, c2, t2⟩, ⟨a3, n3, c3, t3⟩, ⟨a4, n4, c4, o4⟩⟩ := T
        dsimp only at x0 x1 x2 x3 x4 K
        obtain ⟨W2, hW2⟩ : ∃ W, W = wr.alloc (.cells #[.int .i64 f, .slice a1 n1 c1, .slice a2 n2 c2, .slice a3 n3 c3, .slice a4 n4 c4] 33) := ⟨_, rfl⟩
        have B2 : Hid (Below w.heap.size w W2) := by rw [hW2]; exact HB.out.alloc HB.out.size _
        have I2 : Hid (StIn W2 ⟨f, ⟨a1, n1, c1, t1⟩, ⟨a2, n2, c2, t2⟩, ⟨a3, n3, c3, t3⟩, ⟨a4, n4, c4, o4⟩⟩) := by rw [hW2]; exact hin.out.below (balCn (Below.refl _ _) _)
        go_wp2_with fail
        rw [← hW2]
        clear hW2
        refine (K _ _ I2.out).out.mono ?_
        rintro e w3 ⟨hT, hb3⟩
        obtain ⟨c, l, hc0, rfl⟩ := hT
        have B3 := hid (B2.out.trans (hb3.mono B2.out.size))
        clear hb3 x0 x1 x2 x3 x4
        go_wp2
        exact ⟨rfl, .inr ⟨N.out, c, l, hc0, rfl⟩, B3.out⟩
    · have d3 : ¬ (k : Int) < (m : Int) := by omega
      have N : Hid (plP m R) := ⟨by omega, fun i hi => HR.out i (by omega)⟩
      go_wp2
      go_end0
      exact ⟨.inl ⟨N.out, rfl⟩, HB.out⟩
set_option maxRecDepth 20000 in
set_option maxHeartbeats 4000000 in
theorem iClo (b : Nat) (a : Option Addr) (m cap : Nat) (R : Nat → St) (hm : m ≤ 1048576) (hs : ∀ k, k < m → StB (R k) 1048576) (w : World) (hb : w.cell? ⟨b, 0, none⟩ = some (.slice a m cap)) (h : Sts w a m cap R) :
    Calls Tryd.prog 21 #[.pointer (some ⟨b, 0, none⟩)] w fun e w' => ((plP m R ∧ e = .returned (.tuple #[])) ∨ (¬ plP m R ∧ Thrown e)) ∧ Below w.heap.size w w' := by
  have K := hid (iChks a m cap R hm hs w h)
  clear h hs
  go_enter Tryd.func21, Tryd.ntmps21
  go_wp2_with fail
  refine K.out.mono ?_
  rintro e w2 ⟨(⟨hp, rfl⟩ | ⟨hp, c, l, hc0, rfl⟩), hb2⟩
  · have HP := hid hp
    have HB := hid hb2
    clear hp hb2
    go_wp2
    go_end0
    exact ⟨.inl ⟨HP.out, rfl⟩, HB.out⟩
  · have HP := hid hp
    have HB := hid hb2
    clear hp hb2
    go_wp2
    exact ⟨rfl, .inr ⟨HP.out, c, l, hc0, rfl⟩, HB.out⟩
end Go.Proofs.YtmjolkagkeonfaaDoor
namespace Go.Proofs.YtmjolkagkeonfaaDoor
open Go.RowKit
/-! The program's caught: what is thrown is the answer. -/
theorem taF (v : Value) (w : World) : (Instr.typeAssert (.iface 54 v) 20 54 false).run Tryd.prog w = .ok v w := by kernel_rfl
set_option maxRecDepth 20000 in
set_option maxHeartbeats 2000000 in
theorem catch_idle (p : Addr) (w : World) :
    CallsD Tryd.prog 33 #[.pointer (some p)] .returning w fun e u' w' => e = .returned (.tuple #[]) ∧ u' = .returning ∧ w' = w := by
  refine callsD_of_wpS Tryd.func33 rfl fun c₀ cs hu => ?_
  apply wpS_seq
  apply wpS_region
  simp [wpOpsS, go_sem, recoverD, hu, Tryd.ntmps33, Exit.thenS]
  refine wpS_of_wp ?_
  have e1 : (#[Value.pointer (some p)] ++ ((Array.replicate 6 undef).setIfInBounds 1 Value.nilIface).setIfInBounds 0 Value.nilIface : Array Value) = #[.pointer (some p), .nilIface, .nilIface, undef, undef, undef, undef] := rfl
  rw [e1]
  go_wp2
  exact ⟨rfl, .returning, by cases c₀; simp_all, .tuple #[], by simp [results, Tryd.results33, go_sem], rfl, rfl, rfl⟩
set_option maxRecDepth 20000 in
set_option maxHeartbeats 2000000 in
theorem catch_panicking (b : Nat) (c l : Int) (older : List PanicEntry) (w : World) (h0 : RowAt w b 54 #[.int .i64 0, .int .i64 0]) :
    CallsD Tryd.prog 33 #[.pointer (some ⟨b, 0, none⟩)] (.panicking ({ v := .iface 54 (.agg #[.int .i64 c, .int .i64 l]), recovered := false } :: older)) w fun e u' w' =>
      e = .returned (.tuple #[]) ∧ u' = .panicking ({ v := .iface 54 (.agg #[.int .i64 c, .int .i64 l]), recovered := true } :: older) ∧ w' = (w.setCell ⟨b, 0, none⟩ (.int .i64 c)).setCell ⟨b, 1, none⟩ (.int .i64 l) := by
  refine callsD_of_wpS Tryd.func33 rfl fun c₀ cs hu => ?_
  apply wpS_seq
  apply wpS_region
  simp [wpOpsS, go_sem, recoverD, hu, Tryd.ntmps33, Exit.thenS]
  refine wpS_of_wp ?_
  have hta := taF
  have c0 := h0.cell 0
  have c1 := h0.cell 1
  have f0 := h0.free 0
  have f1 := (h0.set 0 (.int .i64 c)).free 1
  have e1 : (#[Value.pointer (some ⟨b, 0, none⟩)] ++ ((Array.replicate 6 undef).setIfInBounds 1 (Value.iface 54 (Value.agg #[Value.int IntKind.i64 c, Value.int IntKind.i64 l]))).setIfInBounds 0 (Value.iface 54 (Value.agg #[Value.int IntKind.i64 c, Value.int IntKind.i64 l])) : Array Value) = #[.pointer (some ⟨b, 0, none⟩), Value.iface 54 (Value.agg #[Value.int IntKind.i64 c, Value.int IntKind.i64 l]), Value.iface 54 (Value.agg #[Value.int IntKind.i64 c, Value.int IntKind.i64 l]), undef, undef, undef, undef] := rfl
  rw [e1]
  go_wp2
  exact ⟨rfl, _, rfl, .tuple #[], by simp [results, Tryd.results33, go_sem], rfl, rfl, rfl⟩
set_option maxRecDepth 20000 in
set_option maxHeartbeats 4000000 in
theorem iCaught (b : Nat) (a : Option Addr) (m cap : Nat) (R : Nat → St) (hm : m ≤ 1048576) (hs : ∀ k, k < m → StB (R k) 1048576) (w : World) (hbl : b < w.heap.size) (hb : w.cell? ⟨b, 0, none⟩ = some (.slice a m cap)) (h : Sts w a m cap R) :
    Calls Tryd.prog 20 #[.func (.func 21) #[] #[.pointer (some ⟨b, 0, none⟩)]] w fun e w' => (∃ c l : Int, e = .returned (.agg #[.int .i64 c, .int .i64 l]) ∧ (c = 0 ↔ plP m R)) ∧ Below w.heap.size w w' := by
  have hmf : ∀ (fn : Fn) (first cap : Array Value) (w : World), (Instr.makeFunc fn first cap).run Tryd.prog w = .ok (.func fn first cap) w := fun _ _ _ _ => rfl
  obtain ⟨W0, hW0⟩ : ∃ W, W = w.alloc (.cells #[.int .i64 0, .int .i64 0] 54) := ⟨_, rfl⟩
  have B0 : Hid (Below w.heap.size w W0) := by rw [hW0]; exact balCn (Below.refl _ _) _
  have R0 : Hid (RowAt W0 w.heap.size 54 #[.int .i64 0, .int .i64 0]) := by rw [hW0]; exact RowAt.new _ _ _
  have K := hid (iClo b a m cap R hm hs W0 ((B0.out.cell (p := ⟨b, 0, none⟩) hbl).trans hb) (h.below B0.out))
  clear h hs hb
  go_enter_defers Tryd.func20, Tryd.ntmps20
  go_wp2_with fail
  rw [← hW0]
  clear hW0
  refine K.out.mono ?_
  rintro e w2 ⟨(⟨hp, rfl⟩ | ⟨hp, c, l, hc0, rfl⟩), hb2⟩
  · have HP := hid hp
    have R2 := hid (R0.out.below hb2 R0.out.lt)
    have B2 := hid (B0.out.trans (hb2.mono B0.out.size))
    have c0 := R2.out.cell 0
    have c1 := R2.out.cell 1
    have f0 := R2.out.free 0
    have f1 := (R2.out.set 0 (.int .i64 0)).free 1
    clear hp hb2 K
    go_wp2
    refine leaves_cons (f := 33) (args := #[.pointer (some ⟨w.heap.size, 0, none⟩)]) (by simp) (by simp [go_sem]) ?_
    refine (catch_idle _ _).mono ?_
    rintro e u' w'' ⟨rfl, rfl, rfl⟩
    have R3 : RowAt ((w2.setCell ⟨w.heap.size, 0, none⟩ (.int .i64 0)).setCell ⟨w.heap.size, 1, none⟩ (.int .i64 0)) w.heap.size 54 #[.int .i64 0, .int .i64 0] := (R2.out.set 0 (.int .i64 0)).set 1 (.int .i64 0)
    refine ⟨.agg #[.int .i64 0, .int .i64 0], results_cell_row Tryd.results20 _ _ w.heap.size _ _ _ _ rfl R3 Tryd.underlying54 rfl (by kernel_rfl), ⟨0, 0, rfl, fun _ => HP.out, fun _ => rfl⟩, (B2.out.setCell (Nat.le_refl _) _).setCell (Nat.le_refl _) _⟩
  · have HP := hid hp
    have R2 := hid (R0.out.below hb2 R0.out.lt)
    have B2 := hid (B0.out.trans (hb2.mono B0.out.size))
    clear hp hb2 K
    go_wp2
    refine leaves_cons (f := 33) (args := #[.pointer (some ⟨w.heap.size, 0, none⟩)]) (by simp) (by simp [go_sem]) ?_
    refine (catch_panicking w.heap.size c l [] w2 R2.out).mono ?_
    rintro e u' w'' ⟨rfl, rfl, rfl⟩
    have R3 : RowAt ((w2.setCell ⟨w.heap.size, 0, none⟩ (.int .i64 c)).setCell ⟨w.heap.size, 1, none⟩ (.int .i64 l)) w.heap.size 54 #[.int .i64 c, .int .i64 l] := (R2.out.set 0 (.int .i64 c)).set 1 (.int .i64 l)
    refine ⟨.agg #[.int .i64 c, .int .i64 l], results_cell_row Tryd.results20 _ _ w.heap.size _ _ _ _ rfl R3 Tryd.underlying54 rfl (by kernel_rfl), ⟨c, l, rfl, fun hh => absurd hh hc0, fun hh => absurd hh HP.out⟩, (B2.out.setCell (Nat.le_refl _) _).setCell (Nat.le_refl _) _⟩
end Go.Proofs.YtmjolkagkeonfaaDoor
namespace Go.Proofs.YtmjolkagkeonfaaDoor
open Go.RowKit
set_option linter.unusedVariables false
/-! The program's readStatements. -/
theorem wdsL_B {s : ByteArray} {n : Nat} (hs : s.size ≤ n) : (wdsL s).length ≤ n + 1 ∧ ∀ x ∈ wdsL s, x.size ≤ n := by
  unfold wdsL
  refine ⟨?_, fun x hx => ?_⟩
  · have h1 := List.length_filter_le (fun b : ByteArray => decide (0 < b.size)) (splB 32 s)
    have h2 := (splB_len 32 s).2
    omega
  · have hx := (List.mem_filter.1 hx).1
    unfold splB at hx
    obtain ⟨y, hy, rfl⟩ := List.mem_map.1 hx
    have := splA_mem _ _ _ _ hy
    rw [baLen] at this
    rw [ofL_size]
    simp at this
    omega
theorem splB_sz {c : UInt8} {s : ByteArray} {n : Nat} (hs : s.size ≤ n) : ∀ x ∈ splB c s, x.size ≤ n := by
  intro x hx
  unfold splB at hx
  obtain ⟨y, hy, rfl⟩ := List.mem_map.1 hx
  have := splA_mem _ _ _ _ hy
  rw [baLen] at this
  rw [ofL_size]
  simp at this
  omega
theorem PolR.monoB {w : World} {B B' : Nat} {v : Value} {L : List PS} {Rs : List St} {X : Nat → Nat} (h : PolR w B v L Rs X) (hb : B' ≤ B) : PolR w B' v L Rs X := by
  refine ⟨⟨h.own.1, ?_⟩, h.len, Nat.le_trans hb h.lo, h.hi, h.at_⟩
  rcases h.own.2 with h0 | ⟨g, cap, cur, he, hbg, r⟩
  · exact .inl h0
  · exact .inr ⟨g, cap, cur, he, Nat.le_trans hb hbg, r⟩
theorem PolAt.monoB {w : World} {B B' : Nat} {v : Value} {L : List PS} (h : PolAt w B v L) (hb : B' ≤ B) : PolAt w B' v L := by
  obtain ⟨Rs, X, h⟩ := h
  exact ⟨Rs, X, h.monoB hb⟩
end Go.Proofs.YtmjolkagkeonfaaDoor
