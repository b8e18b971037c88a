import Derived.Test.YtokjfffcciddhaaGreatDoorQG
namespace Go.Proofs.YtokjfffcciddhaaGreatDoor
open Go.RowKit
/-! The specification's PolicyFault. -/
set_option maxRecDepth 20000 in
set_option maxHeartbeats 2000000 in
theorem sList (a : Option Addr) (n cap : Nat) (ts : Nat → ByteArray) (hn : n ≤ 1048576) (ht : ∀ i, i < n → (ts i).size ≤ 1048576) (w : World) (h : Strs w a n cap ts) :
    Calls Tryz.prog 77 #[.slice a n cap] w fun e w' => e = .returned (.bool (pb (lsP n ts))) ∧ w' = w := by
  have HT := hid ht
  clear ht
  by_cases h1 : 1 ≤ n
  · by_cases h2 : n ≤ 20
    · have d1 : ¬ (n : Int) < 1 := by omega
      have d2 : ¬ (20 : Int) < (n : Int) := by omega
      go_enter Tryz.func77, Tryz.ntmps77
      go_wp2
      clear d1 d2
      go_loopw [3] (fun v wr => ∃ k : Nat, k ≤ n ∧ v = .int .i64 (k : Int) ∧ (∀ i, i < k → wdP (ts i) ∧ ¬ cmP (ts i)) ∧ wr = w) (fun v _ => n - (intOf v).toNat)
      case atStart => exact ⟨0, Nat.zero_le _, rfl, fun i hi => absurd hi (Nat.not_lt_zero _), rfl⟩
      case round =>
        obtain ⟨k, hk, rfl, hr, rfl⟩ := hrel
        have HR := hid hr
        clear hr
        by_cases hlt : k < n
        · have d3 : (k : Int) < (n : Int) := by omega
          have k0 : (0 : Int) ≤ (k : Int) := by omega
          rcases h.2 with h00 | ⟨b, off, rfl, hbl, hc⟩
          · omega
          have c0 := hc k hlt
          have st := HT.out k hlt
          obtain ⟨t, htt⟩ : ∃ t, ts k = t := ⟨_, rfl⟩
          rw [htt] at c0 st
          have HTT := hid htt
          clear htt hc
          have SW := hid (sWord t st)
          by_cases q1 : wdP t
          · rw [pb_t q1] at SW
            go_wp2_with fail
            refine (SW.out _).mono ?_
            rintro e w2 ⟨rfl, rfl⟩
            go_wp2_with fail
            refine (sIndex t st _).mono ?_
            rintro e w2 ⟨⟨z, rfl, hz⟩, rfl⟩
            by_cases q2 : cmP t
            · have z0 : (0 : Int) ≤ z := hz.2 q2
              have E : Hid (pb (lsP n ts) = false) := pb_f fun hh => (hh.2.2 k hlt).2 (by rw [HTT.out]; exact q2)
              clear hz
              go_wp2
              go_ret
              exact ⟨by rw [E.out]; rfl, rfl⟩
            · have z0 : ¬ (0 : Int) ≤ z := fun hh => q2 (hz.1 hh)
              have N : Hid (∀ i, i < k + 1 → wdP (ts i) ∧ ¬ cmP (ts i)) := fun i hi => by
                by_cases e : i = k
                · subst e; rw [HTT.out]; exact ⟨q1, q2⟩
                · exact HR.out i (by omega)
              clear hz
              go_wp2
              go_roundw
              case rel => exact ⟨k + 1, by omega, by go_num, N.out, trivial⟩
              case measure => simp [intOf]; omega
          · rw [pb_f q1] at SW
            have E : Hid (pb (lsP n ts) = false) := pb_f fun hh => q1 (by rw [← HTT.out]; exact (hh.2.2 k hlt).1)
            go_wp2_with fail
            refine (SW.out _).mono ?_
            rintro e w2 ⟨rfl, rfl⟩
            go_wp2
            go_ret
            exact ⟨by rw [E.out]; rfl, rfl⟩
        · have d3 : ¬ (k : Int) < (n : Int) := by omega
          have E : Hid (pb (lsP n ts) = true) := pb_t ⟨h1, h2, fun i hi => HR.out i (by omega)⟩
          go_wp2
          go_ret
          exact ⟨by rw [E.out]; rfl, rfl⟩
    · have d1 : ¬ (n : Int) < 1 := by omega
      have d2 : (20 : Int) < (n : Int) := by omega
      have E : Hid (pb (lsP n ts) = false) := pb_f fun h => h2 h.2.1
      go_enter Tryz.func77, Tryz.ntmps77
      go_wp2
      go_ret
      exact ⟨by rw [E.out]; rfl, rfl⟩
  · have d1 : (n : Int) < 1 := by omega
    have E : Hid (pb (lsP n ts) = false) := pb_f fun h => h1 h.1
    go_enter Tryz.func77, Tryz.ntmps77
    go_wp2
    go_ret
    exact ⟨by rw [E.out]; rfl, rfl⟩
theorem cnP_w {kd : Int} {tx : ByteArray} {tm : Int} (h : kd = 1 ∨ kd = 4) : cnP ⟨kd, tx, tm⟩ ↔ wdP tx ∧ tm = 0 := by
  unfold cnP
  dsimp only
  constructor
  · rintro (⟨_, h1, h2⟩ | ⟨h1, _⟩)
    · exact ⟨h1, h2⟩
    · exfalso; omega
  · exact fun ⟨h1, h2⟩ => .inl ⟨h, h1, h2⟩
theorem cnP_t {kd : Int} {tx : ByteArray} {tm : Int} (h : kd = 2 ∨ kd = 3) : cnP ⟨kd, tx, tm⟩ ↔ tx = ⟨#[]⟩ ∧ 0 ≤ tm ∧ tm ≤ 4102444800 := by
  unfold cnP
  dsimp only
  constructor
  · rintro (⟨h1, _⟩ | ⟨_, h1⟩)
    · exfalso; omega
    · exact h1
  · exact fun h1 => .inr ⟨h, h1⟩
theorem cnP_o {kd : Int} {tx : ByteArray} {tm : Int} (h1 : ¬ kd = 1) (h2 : ¬ kd = 2) (h3 : ¬ kd = 3) (h4 : ¬ kd = 4) : ¬ cnP ⟨kd, tx, tm⟩ := by
  unfold cnP
  dsimp only
  rintro (⟨h, _⟩ | ⟨h, _⟩) <;> omega
theorem txt0 {t : ByteArray} (h : ¬ t = ⟨#[]⟩) : t.toList.isEmpty = false ∧ ¬ t.toList = [] := by
  have : ¬ t.toList = [] := fun e => h (by
    rw [ByteArray.toList_eq] at e
    cases t with
    | mk d => congr 1; exact Array.toList_eq_nil_iff.1 e)
  exact ⟨by cases hh : t.toList with
    | nil => exact absurd hh this
    | cons _ _ => rfl, this⟩
set_option maxRecDepth 20000 in
set_option maxHeartbeats 4000000 in
theorem sIfs (a : Option Addr) (n cap : Nat) (o : Nat → Cn) (hn : n ≤ 1048576) (ht : ∀ i, i < n → (o i).tx.size ≤ 1048576) (w : World) (h : Cns w a n cap o) :
    Calls Tryz.prog 78 #[.slice a n cap] w fun e w' => e = .returned (.bool (pb (isP n o))) ∧ Below w.heap.size w w' := by
  have HT := hid ht
  have HH := hid h
  clear ht h
  go_enter Tryz.func78, Tryz.ntmps78
  go_wp2
  go_loopw [3] (fun v wr => ∃ k : Nat, k ≤ n ∧ v = .int .i64 (k : Int) ∧ (∀ i, i < k → cnP (o i)) ∧ Below w.heap.size w wr) (fun v _ => n - (intOf v).toNat)
  case atStart => exact ⟨0, Nat.zero_le _, rfl, fun i hi => absurd hi (Nat.not_lt_zero _), Below.refl _ _⟩
  case round =>
    obtain ⟨k, hk, rfl, hr, hB⟩ := hrel
    have HR := hid hr
    have HB := hid hB
    clear hr hB
    by_cases hlt : k < n
    · have d3 : (k : Int) < (n : Int) := by omega
      have k0 : (0 : Int) ≤ (k : Int) := by omega
      rcases (HH.out.below HB.out).2 with h00 | ⟨b, off, rfl, hbl, hc⟩
      · omega
      obtain ⟨c0, c1, c2⟩ := hc k hlt
      have st := HT.out k hlt
      have FA : Hid (¬ cnP (o k) → pb (isP n o) = false) := fun hh => pb_f fun hi => hh (hi k hlt)
      have TR : Hid (cnP (o k) → ∀ i, i < k + 1 → cnP (o i)) := fun hh i hi => by
        by_cases e : i = k
        · subst e; exact hh
        · exact HR.out i (by omega)
      generalize o k = C at c0 c1 c2 st FA TR
      obtain ⟨kd, tx, tm⟩ := C
      dsimp only at c0 c1 c2 st
      have B2 : Hid (Below w.heap.size w (wr.alloc (.cells #[.int .i64 kd, .string tx, .int .i64 tm] 112))) := HB.out.alloc HB.out.size _
      clear hc
      have SW := hid (sWord tx st)
      by_cases k1 : kd = 1
      · subst k1
        have KD : (((1 : Int) = 1) ∨ ((1 : Int) = 4)) := .inl rfl
        by_cases q1 : wdP tx
        · rw [pb_t q1] at SW
          by_cases q2 : tm = 0
          · subst q2
            have N := hid (TR.out ((cnP_w KD).2 ⟨q1, rfl⟩))
            go_wp2_with fail
            refine (SW.out _).mono ?_
            rintro e w2 ⟨rfl, rfl⟩
            go_wp2
            go_roundw
            case rel => exact ⟨k + 1, by omega, by go_num, N.out, B2.out⟩
            case measure => simp [intOf]; omega
          · have b2 : (tm != 0) = true := by simpa using q2
            have N := hid (FA.out (fun hh => q2 ((cnP_w KD).1 hh).2))
            go_wp2_with fail
            refine (SW.out _).mono ?_
            rintro e w2 ⟨rfl, rfl⟩
            go_wp2
            go_ret
            exact ⟨by rw [N.out]; rfl, B2.out⟩
        · rw [pb_f q1] at SW
          have N := hid (FA.out (fun hh => q1 ((cnP_w KD).1 hh).1))
          go_wp2_with fail
          refine (SW.out _).mono ?_
          rintro e w2 ⟨rfl, rfl⟩
          go_wp2
          go_ret
          exact ⟨by rw [N.out]; rfl, B2.out⟩
      by_cases k4 : kd = 4
      · subst k4
        have KD : (((4 : Int) = 1) ∨ ((4 : Int) = 4)) := .inr rfl
        by_cases q1 : wdP tx
        · rw [pb_t q1] at SW
          by_cases q2 : tm = 0
          · subst q2
            have N := hid (TR.out ((cnP_w KD).2 ⟨q1, rfl⟩))
            go_wp2_with fail
            refine (SW.out _).mono ?_
            rintro e w2 ⟨rfl, rfl⟩
            go_wp2
            go_roundw
            case rel => exact ⟨k + 1, by omega, by go_num, N.out, B2.out⟩
            case measure => simp [intOf]; omega
          · have b2 : (tm != 0) = true := by simpa using q2
            have N := hid (FA.out (fun hh => q2 ((cnP_w KD).1 hh).2))
            go_wp2_with fail
            refine (SW.out _).mono ?_
            rintro e w2 ⟨rfl, rfl⟩
            go_wp2
            go_ret
            exact ⟨by rw [N.out]; rfl, B2.out⟩
        · rw [pb_f q1] at SW
          have N := hid (FA.out (fun hh => q1 ((cnP_w KD).1 hh).1))
          go_wp2_with fail
          refine (SW.out _).mono ?_
          rintro e w2 ⟨rfl, rfl⟩
          go_wp2
          go_ret
          exact ⟨by rw [N.out]; rfl, B2.out⟩
      by_cases k2 : kd = 2
      · subst k2
        have KD : (((2 : Int) = 2) ∨ ((2 : Int) = 3)) := .inl rfl
        clear SW
        by_cases q1 : tx = ⟨#[]⟩
        · subst q1
          by_cases q2 : tm < 0
          · have N := hid (FA.out (fun hh => by have := ((cnP_t KD).1 hh).2.1; omega))
            go_wp2
            go_ret
            exact ⟨by rw [N.out]; rfl, B2.out⟩
          · by_cases q3 : 4102444800 < tm
            · have N := hid (FA.out (fun hh => by have := ((cnP_t KD).1 hh).2.2; omega))
              go_wp2
              go_ret
              exact ⟨by rw [N.out]; rfl, B2.out⟩
            · have N := hid (TR.out ((cnP_t KD).2 ⟨rfl, by omega, by omega⟩))
              go_wp2
              go_roundw
              case rel => exact ⟨k + 1, by omega, by go_num, N.out, B2.out⟩
              case measure => simp [intOf]; omega
        · obtain ⟨x1, x2⟩ := txt0 q1
          have N := hid (FA.out (fun hh => q1 ((cnP_t KD).1 hh).1))
          clear q1
          go_wp2
          go_ret
          exact ⟨by rw [N.out]; rfl, B2.out⟩
      by_cases k3 : kd = 3
      · subst k3
        have KD : (((3 : Int) = 2) ∨ ((3 : Int) = 3)) := .inr rfl
        clear SW
        by_cases q1 : tx = ⟨#[]⟩
        · subst q1
          by_cases q2 : tm < 0
          · have N := hid (FA.out (fun hh => by have := ((cnP_t KD).1 hh).2.1; omega))
            go_wp2
            go_ret
            exact ⟨by rw [N.out]; rfl, B2.out⟩
          · by_cases q3 : 4102444800 < tm
            · have N := hid (FA.out (fun hh => by have := ((cnP_t KD).1 hh).2.2; omega))
              go_wp2
              go_ret
              exact ⟨by rw [N.out]; rfl, B2.out⟩
            · have N := hid (TR.out ((cnP_t KD).2 ⟨rfl, by omega, by omega⟩))
              go_wp2
              go_roundw
              case rel => exact ⟨k + 1, by omega, by go_num, N.out, B2.out⟩
              case measure => simp [intOf]; omega
        · obtain ⟨x1, x2⟩ := txt0 q1
          have N := hid (FA.out (fun hh => q1 ((cnP_t KD).1 hh).1))
          clear q1
          go_wp2
          go_ret
          exact ⟨by rw [N.out]; rfl, B2.out⟩
      have N := hid (FA.out (cnP_o k1 k2 k3 k4))
      have b1 : (kd == 1) = false := beq_eq_false_iff_ne.2 k1
      have b4 : (kd == 4) = false := beq_eq_false_iff_ne.2 k4
      have b2 : (kd == 2) = false := beq_eq_false_iff_ne.2 k2
      have b3 : (kd == 3) = false := beq_eq_false_iff_ne.2 k3
      clear SW
      go_wp2
      go_ret
      exact ⟨by rw [N.out]; rfl, B2.out⟩
    · have d3 : ¬ (k : Int) < (n : Int) := by omega
      have E : Hid (pb (isP n o) = true) := pb_t fun i hi => HR.out i (by omega)
      go_wp2
      go_ret
      exact ⟨by rw [E.out]; rfl, HB.out⟩
end Go.Proofs.YtokjfffcciddhaaGreatDoor
