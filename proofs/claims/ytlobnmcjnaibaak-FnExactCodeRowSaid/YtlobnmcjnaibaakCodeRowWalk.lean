import Derived.Test.YtlobnmcjnaibaakCRowS
namespace Go.Proofs.Ytlobnmcjnaibaak
open Go.RowKit
theorem markIT (lo hi : Nat) (a : Option Addr) (len cap : Nat) (xs : List Int) (M : Nat) (hM : M = 1 + len) (w : World) (h : Own w lo hi a len cap xs) (hl : len ≤ 1048576) :
    Calls Try.prog 8 #[.slice a len cap, .int .i64 1] w fun e w' => e = .returned (.int .i64 (M : Nat)) ∧ Own w' lo hi a len cap (marks 1 len) ∧ Turned lo hi w w' := by
  subst hM
  rcases h.2.2 with h0 | ⟨b, off, rfl, h1, h2, hw⟩
  · subst h0
    refine (mark64_0 a cap 1 w).mono ?_
    rintro e w' ⟨rfl, rfl⟩
    exact ⟨rfl, ⟨marks_len _ _, h.2.1, Or.inl rfl⟩, Turned.of_below (Below.refl _ _)⟩
  · have hx := h.1
    subst hx
    refine (mark64 b off cap xs 1 w hw hl (by decide)).mono ?_
    rintro e w' ⟨rfl, hw', hg⟩
    exact ⟨rfl, ⟨marks_len _ _, h.2.1, Or.inr ⟨b, off, rfl, h1, h2, hw'⟩⟩, Turned.of_grown hg h1 h2⟩
theorem heldIT (lo hi : Nat) (a : Option Addr) (len cap : Nat) (M : Nat) (hM : M = 1 + len) (w : World) (h : Own w lo hi a len cap (marks 1 len)) (hl : len ≤ 1048576) :
    Calls Try.prog 9 #[.slice a len cap, .int .i64 1] w fun e w' => e = .returned (.int .i64 (M : Nat)) ∧ w' = w := by
  subst hM; exact heldOw lo a len cap 1 w h.ow hl (by decide)
theorem AnsI.own {xs : List Int} {w w' : World} {e : Ending} (h : AnsI xs w e w') (hx : xs.length ≤ 64) : ∃ a len cap, e = .returned (.slice a len cap) ∧ len ≤ 64 ∧ Own w' w.heap.size w'.heap.size a len cap xs ∧ Below w.heap.size w w' := by
  obtain ⟨a, len, cap, h1, h2, h3⟩ := h
  exact ⟨a, len, cap, h1, by rw [← h2.1]; exact hx, Own.of h2, h3⟩
set_option maxRecDepth 20000 in
set_option maxHeartbeats 4000000 in
theorem fnExactCodeRow_core (xs : List Int) (hxl : xs.length ≤ 64) (k m g i : Int) (w : World)
    (HS : ∀ w, Calls Try.prog 4 #[cdv k m g, .int .i64 i] w fun e w' => AnsI xs w e w')
    (HI : ∀ w, Calls Try.prog 6 #[cdv k m g, .int .i64 i] w fun e w' => AnsI xs w e w') :
    Calls Try.prog 3 #[.agg #[.int .i64 k, .int .i64 m, .int .i64 g], .int .i64 i] w fun e w' => e = .returned (.bool true) ∧ Below w.heap.size w w' := by
  have HS' := hid HS
  have HI' := hid HI
  clear HS HI
  go_enter Try.func3, Try.ntmps3
  go_wp2_with fail
  refine (toCd k m g _).mono ?_
  rintro e w1 ⟨rfl, hb1⟩
  have P1 : Hid (RowAt w1 w.heap.size 23 #[.int .i64 k, .int .i64 m, .int .i64 g]) := (RowAt.new w _ _).below hb1 (by rw [size_al]; omega)
  have L1 : Hid (Below w.heap.size w w1) := ((Below.refl _ _).alloc (Nat.le_refl _) _).trans (hb1.mono (by rw [size_al]; omega))
  have l1 : w.heap.size < w1.heap.size := P1.out.lt
  clear hb1
  go_wp2_with fail
  refine (HS'.out _).mono ?_
  intro e w2 hans
  obtain ⟨a0, n0, p0, rfl, hn0, hO, hb2⟩ := hans.own hxl
  have s2 := hb2.size
  have O2 := hid hO
  have P2 := hid (P1.out.below hb2 P1.out.lt)
  have L2 := hid (L1.out.trans (hb2.mono L1.out.size))
  clear hans hO hb2 P1 L1
  have c0 := P2.out.cell 0
  have c1 := P2.out.cell 1
  have c2 := P2.out.cell 2
  go_wp2_with fail
  refine (toCd k m g _).mono ?_
  rintro e w3 ⟨rfl, hb3⟩
  have s3 := hb3.size
  have O3 := hid (O2.out.below hb3 (Nat.le_refl _))
  have P3 := hid (P2.out.below hb3 P2.out.lt)
  have L3 := hid (L2.out.trans (hb3.mono L2.out.size))
  clear hb3 O2 P2 L2 c0 c1 c2
  go_wp2_with fail
  refine (HI'.out _).mono ?_
  intro e w4 hans
  obtain ⟨a1, n1, p1, rfl, hn1, hO, hb4⟩ := hans.own hxl
  have s4 := hb4.size
  have Q4 := hid hO
  have O4 := hid (O3.out.below hb4 s3)
  have P4 := hid (P3.out.below hb4 P3.out.lt)
  have L4 := hid (L3.out.trans (hb4.mono L3.out.size))
  clear hans hO hb4 O3 P3 L3
  go_wp2_with fail
  refine (eq64 a1 n1 p1 xs a0 n0 p0 xs _ Q4.out.ints O4.out.ints (by omega) (by omega) rfl).mono ?_
  rintro e w5 ⟨rfl, hb5⟩
  have s5 := hb5.size
  have Q5 := hid (Q4.out.below hb5 (Nat.le_refl _))
  have O5 := hid (O4.out.below hb5 (by omega))
  have P5 := hid (P4.out.below hb5 P4.out.lt)
  have L5 := hid (L4.out.trans (hb5.mono L4.out.size))
  clear hb5 Q4 O4 P4 L4
  obtain ⟨T, hT⟩ : ∃ T, T = 1 + n1 := ⟨_, rfl⟩
  have HT := hid hT
  have hT0 : Hid (T ≤ 65) := by show _ ≤ _; omega
  clear hT
  go_wp2_with fail
  refine (markIT w3.heap.size w4.heap.size a1 n1 p1 xs T HT.out _ Q5.out (by omega)).mono ?_
  rintro e w6 ⟨rfl, hq6, ht6⟩
  have s6 := ht6.size
  have Q6 := hid hq6
  have O6 := hid (O5.out.turned ht6 (by omega))
  have P6 := hid (P5.out.turned ht6 (by omega))
  have L6 := hid (ht6.below L5.out (by omega) (by omega))
  clear hq6 ht6 Q5 O5 P5 L5
  go_wp2_with fail
  refine (heldIT w3.heap.size w4.heap.size a1 n1 p1 T HT.out _ Q6.out (by omega)).mono ?_
  rintro e w7 ⟨rfl, rfl⟩
  have dT : decide ((T : Int) < 0) = false := by simp
  have dn : ((T : Int) != (T : Int)) = false := by simp
  have c0 := P6.out.cell 0
  have c1 := P6.out.cell 1
  have c2 := P6.out.cell 2
  go_wp2_with fail
  refine (toCd k m g _).mono ?_
  rintro e w8 ⟨rfl, hb8⟩
  have s8 := hb8.size
  have Q8 := hid (Q6.out.below hb8 (by omega))
  have O8 := hid (O6.out.below hb8 (by omega))
  have L8 := hid (L6.out.trans (hb8.mono L6.out.size))
  clear hb8 Q6 O6 P6 L6 c0 c1 c2
  go_wp2_with fail
  refine (HI'.out _).mono ?_
  intro e w9 hans
  obtain ⟨a2, n2, p2, rfl, hn2, hO, hb9⟩ := hans.own hxl
  have s9 := hb9.size
  have R9 := hid hO
  have Q9 := hid (Q8.out.below hb9 (by omega))
  have O9 := hid (O8.out.below hb9 (by omega))
  have L9 := hid (L8.out.trans (hb9.mono L8.out.size))
  clear hans hO hb9 Q8 O8 L8
  go_wp2_with fail
  refine (eq64 a2 n2 p2 xs a0 n0 p0 xs _ R9.out.ints O9.out.ints (by omega) (by omega) rfl).mono ?_
  rintro e wA ⟨rfl, hbA⟩
  have QA := hid (Q9.out.below hbA (by omega))
  have LA := hid (L9.out.trans (hbA.mono L9.out.size))
  clear hbA R9 Q9 O9 L9
  go_wp2_with fail
  refine (heldIT w3.heap.size w4.heap.size a1 n1 p1 T HT.out _ QA.out (by omega)).mono ?_
  rintro e wB ⟨rfl, rfl⟩
  clear QA
  go_wp2
  go_ret
  exact ⟨rfl, LA.out⟩
theorem fnExactCodeRow_walk {w : World} (k : Int) (_wk : (Lit.int .i64 k).wf = true) (m : Int) (_wm : (Lit.int .i64 m).wf = true) (g : Int) (_wg : (Lit.int .i64 g).wf = true) (i : Int) (_wi : (Lit.int .i64 i).wf = true) :
    Calls Try.prog 3 #[.agg #[.int .i64 k, .int .i64 m, .int .i64 g], .int .i64 i] w fun e w' => e = .returned (.bool true) ∧ Below w.heap.size w w' := by
  by_cases h : cfault k m g = 0 ∧ 0 ≤ i ∧ i < k + m + g
  · obtain ⟨hf, h0, hi⟩ := h
    obtain ⟨K, M, G, rfl, rfl, rfl, h1, h2, h3, h4, h5⟩ := cfault_ok hf
    obtain ⟨I, rfl⟩ := Int.eq_ofNat_of_zero_le h0
    exact fnExactCodeRow_core (nl (rowL K M G I)) (by rw [nl_len, rowL_len]; omega) K M G I w (fun w => scrow_ok K M G I h1 h2 h3 h4 h5 (by omega) w) (fun w => icrow_ok K M G I h1 h2 h3 h4 h5 (by omega) w)
  · refine fnExactCodeRow_core [] (by simp) k m g i w (fun w => scrow_no k m g i w h) (fun w => icrow_no k m g i w ?_)
    rintro ⟨h0, hi⟩
    unfold csize at hi
    split at hi
    · rename_i hf; exact h ⟨hf, h0, hi⟩
    · omega
end Go.Proofs.Ytlobnmcjnaibaak
