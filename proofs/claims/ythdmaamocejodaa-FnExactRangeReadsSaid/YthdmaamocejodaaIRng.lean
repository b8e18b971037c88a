import Derived.Test.YthdmaamocejodaaICollect
import Derived.Test.YthdmaamocejodaaRngOwn
namespace Go.Proofs.Ythdmaamocejodaa
open Go.RowKit
/-! The program's RangeReads. -/
set_option maxHeartbeats 1000000 in
theorem icollect (K M G U f t : Nat) (h1 : 1 ≤ K) (h2 : K ≤ 32) (h6 : 1 ≤ U) (h7 : U ≤ 4096) (ht : t ≤ 300000) (bf bt bl : Nat) (w : World)
    (rF : RowAt w bf 2 #[.int .i64 (f : Int)]) (rE : RowAt w bt 2 #[.int .i64 (t : Int)]) (rL : RowAt w bl 37 (lya K M G U)) :
    Calls Try.prog 16 #[.func (.func 22) #[] #[.pointer (some ⟨bf, 0, none⟩), .pointer (some ⟨bt, 0, none⟩), .pointer (some ⟨bl, 0, none⟩)]] w fun e W' =>
      ∃ v, e = .returned v ∧ OwnRg W' w.heap.size v (rgN U f t) (rgL K U f t (rgN U f t)) ∧ Below w.heap.size w W' := by
  go_enter Try.func16, Try.ntmps16
  go_wp2_with fail
  refine (callsIn_wide.1 (iappseq 5 K M G U f t (by decide) h1 h2 h6 h7 ht bf bt bl w rF rE rL)).mono ?_
  rintro e w1 ⟨v, rfl, hO, hb⟩
  go_wp2
  go_ret
  exact ⟨v, rfl, hO, hb⟩
set_option maxRecDepth 20000 in
set_option maxHeartbeats 2000000 in
theorem irng_no (k m g u s f c : Int) (w : World) (hno : stripeN k m g u s = -1 ∨ f < 0 ∨ c < 0) :
    Calls Try.prog 9 #[cdv k m g, .int .i64 u, .int .i64 s, .int .i64 f, .int .i64 c] w fun e w' => AnsRI 1 0 (fun _ => 0) w e w' := by
  have R0 : Hid (RowAt ((w.alloc (.cells (cda k m g) 25)).alloc (.cells #[.int .i64 0, .slice none 0 0] 30)) (w.heap.size + 1) 30 #[.int .i64 0, .slice none 0 0]) := RowAt.next _ _ _ (by rw [size_al])
  have B0 : Hid (Below w.heap.size w ((w.alloc (.cells (cda k m g) 25)).alloc (.cells #[.int .i64 0, .slice none 0 0] 30))) := bal5 (bal5 (Below.refl _ _) _) _
  go_enter Try.func9, Try.ntmps9
  go_wp2_with fail
  refine (iStripe _ _ _ _ _ _).mono ?_
  rintro e w1 ⟨rfl, hw1⟩
  have R1 : Hid (RowAt w1 (w.heap.size + 1) 30 #[.int .i64 0, .slice none 0 0]) := R0.out.below hw1 R0.out.lt
  have B1 : Hid (Below w.heap.size w w1) := B0.out.trans (hw1.mono B0.out.size)
  clear hw1 R0 B0
  have fin : ∀ w' : World, RowAt w' (w.heap.size + 1) 30 #[.int .i64 0, .slice none 0 0] → Below w.heap.size w w' → AnsRI 1 0 (fun _ => 0) w (.returned (rsv 1 none 0 0)) (w'.setRow (w.heap.size + 1) #[.int .i64 1, .slice none 0 0]) := fun w' _ hb =>
    ⟨none, 0, rfl, ⟨Nat.le_refl _, Or.inl rfl⟩, below_setRow hb _ _ (by omega)⟩
  have FIN := hid fin
  clear fin
  rcases stripe_lo k m g u s with hs | ⟨hs0, hs1⟩
  · rw [hs]
    clear hno hs
    go_wp2_with (refine wpList_store_row rfl 30 (.tmp 10) (.tmp 26) rfl (w.heap.size + 1) #[.int .i64 1, .slice none 0 0] rfl rfl _ _ R1.out (by kernel_rfl) rfl (oneR _ _ _ _) ?_)
    refine bodyPost_ret (v := rsv 1 none 0 0) ?_ rfl (FIN.out _ R1.out B1.out)
    exact results_cell_row Try.results9 _ _ (w.heap.size + 1) _ _ _ _ rfl (R1.out.setRow _) Try.underlying30 rfl (by kernel_rfl)
  · have hno' : f < 0 ∨ c < 0 := by omega
    obtain ⟨N, hN⟩ : ∃ N : Int, N = stripeN k m g u s := ⟨_, rfl⟩
    rw [← hN] at hs0 hs1 ⊢
    have dN : decide (N < 0) = false := by simp; omega
    clear hN hno
    by_cases hf : f < 0
    · have df : decide (f < 0) = true := by simp; omega
      go_wp2_with (refine wpList_store_row rfl 30 (.tmp 10) (.tmp 26) rfl (w.heap.size + 1) #[.int .i64 1, .slice none 0 0] rfl rfl _ _ R1.out (by kernel_rfl) rfl (oneR _ _ _ _) ?_)
      refine bodyPost_ret (v := rsv 1 none 0 0) ?_ rfl (FIN.out _ R1.out B1.out)
      exact results_cell_row Try.results9 _ _ (w.heap.size + 1) _ _ _ _ rfl (R1.out.setRow _) Try.underlying30 rfl (by kernel_rfl)
    · have df : decide (f < 0) = false := by simp; omega
      have dc : decide (c < 0) = true := by simp; omega
      go_wp2_with (refine wpList_store_row rfl 30 (.tmp 10) (.tmp 26) rfl (w.heap.size + 1) #[.int .i64 1, .slice none 0 0] rfl rfl _ _ R1.out (by kernel_rfl) rfl (oneR _ _ _ _) ?_)
      refine bodyPost_ret (v := rsv 1 none 0 0) ?_ rfl (FIN.out _ R1.out B1.out)
      exact results_cell_row Try.results9 _ _ (w.heap.size + 1) _ _ _ _ rfl (R1.out.setRow _) Try.underlying30 rfl (by kernel_rfl)
/-- the numbers of the entries do not hang on where a range behind the end begins -/
theorem ans_move {n n' : Nat} {f f' : Nat → Int} {w : World} {e : Ending} {w' : World} (hn : n = n') (hf : n = 0 ∨ f = f') (h : AnsRI 0 n f w e w') : AnsRI 0 n' f' w e w' := by
  subst hn
  rcases hf with h0 | rfl
  · subst h0
    obtain ⟨a, c, he, ho, hb⟩ := h
    exact ⟨a, c, he, ⟨ho.1, Or.inl rfl⟩, hb⟩
  · exact h
set_option maxRecDepth 20000 in
set_option maxHeartbeats 4000000 in
theorem irng_ok0 (K M G U S f c t : Nat) (h1 : 1 ≤ K) (h2 : K ≤ 32) (h6 : 1 ≤ U) (h7 : U ≤ 4096) (h8 : S ≤ 100000) (h9 : f ≤ 9223372036854775807) (hn : stripeN K M G U S ≠ -1)
    (hmin : (t : Int) = (f : Int) + min (c : Int) ((S : Int) - (f : Int))) (w : World) :
    Calls Try.prog 9 #[cdv K M G, .int .i64 U, .int .i64 S, .int .i64 f, .int .i64 c] w fun e w' => AnsRI 0 (rgN U f t) (fun p => ((rgC K U f t p : Nat) : Int)) w e w' := by
  have C0 : Hid (RowAt ((w.alloc (.cells (cda K M G) 25)).alloc (.cells #[.int .i64 0, .slice none 0 0] 30)) w.heap.size 25 (cda K M G)) := (RowAt.new _ _ _).alloc _
  have R0 : Hid (RowAt ((w.alloc (.cells (cda K M G) 25)).alloc (.cells #[.int .i64 0, .slice none 0 0] 30)) (w.heap.size + 1) 30 #[.int .i64 0, .slice none 0 0]) := RowAt.next _ _ _ (by rw [size_al])
  have B0 : Hid (Below w.heap.size w ((w.alloc (.cells (cda K M G) 25)).alloc (.cells #[.int .i64 0, .slice none 0 0] 30))) := bal5 (bal5 (Below.refl _ _) _) _
  have Z0 : Hid (((w.alloc (.cells (cda K M G) 25)).alloc (.cells #[.int .i64 0, .slice none 0 0] 30)).heap.size = w.heap.size + 2) := by show _ = _; simp only [size_al]
  obtain ⟨N, hN⟩ : ∃ N : Nat, stripeN K M G U S = (N : Int) := by
    rcases stripe_lo K M G U S with h | ⟨h, _⟩
    · exact absurd h hn
    · exact ⟨_, (Int.toNat_of_nonneg h).symm⟩
  have HN := hid hN
  clear hn hN
  have ht : t ≤ 100000 := by omega
  obtain ⟨E, hE⟩ : ∃ E : Int, E = (S : Int) - (f : Int) := ⟨_, rfl⟩
  obtain ⟨D, hD⟩ : ∃ D : Int, D = min (c : Int) E := ⟨_, rfl⟩
  have e1 : (S : Int) - (f : Int) = E := hE.symm
  have e2 : (f : Int) + D = (t : Int) := by rw [hD, hE]; omega
  have HD := hid hD
  have bE : -9223372036854775807 ≤ E ∧ E ≤ 100000 := by omega
  have bD : -9223372036854775807 ≤ D ∧ D ≤ 100000 := by omega
  clear hE hmin hD
  go_enter Try.func9, Try.ntmps9
  go_wp2_with fail
  refine (iStripe _ _ _ _ _ _).mono ?_
  rintro e w1 ⟨rfl, hw1⟩
  rw [HN.out]
  have C1 : Hid (RowAt w1 w.heap.size 25 (cda K M G)) := C0.out.below hw1 C0.out.lt
  have R1 : Hid (RowAt w1 (w.heap.size + 1) 30 #[.int .i64 0, .slice none 0 0]) := R0.out.below hw1 R0.out.lt
  have B1 : Hid (Below w.heap.size w w1) := B0.out.trans (hw1.mono B0.out.size)
  have Z1 : Hid (w.heap.size + 2 ≤ w1.heap.size) := by have := hw1.size; rwa [Z0.out] at this
  clear hw1 C0 R0 B0 Z0
  have dN : decide ((N : Int) < 0) = false := by simp
  have df : decide ((f : Int) < 0) = false := by simp
  have dc : decide ((c : Int) < 0) = false := by simp
  have c0 := C1.out.cell 0
  have c1 := C1.out.cell 1
  have c2 := C1.out.cell 2
  by_cases hcE : E < (c : Int)
  · have e3 : (f : Int) + E = (t : Int) := by have := HD.out; omega
    clear HD e2
    go_wp2_with fail
    refine (iranges K M G U f t _).mono ?_
    rintro e w2 ⟨rfl, hw2⟩
    have L2 : RowAt w2 (w1.heap.size + 1) 37 (lya K M G U) := by rw [hw2]; exact ((RowAt.next _ _ _ (by rw [size_al])).alloc _).alloc _
    have F2 : RowAt w2 (w1.heap.size + 1 + 1) 2 #[.int .i64 (f : Int)] := by rw [hw2]; exact (RowAt.next _ _ _ (by simp only [size_al])).alloc _
    have E2 : RowAt w2 (w1.heap.size + 1 + 1 + 1) 2 #[.int .i64 (t : Int)] := by rw [hw2]; exact RowAt.next _ _ _ (by simp only [size_al])
    have R2 : Hid (RowAt w2 (w.heap.size + 1) 30 #[.int .i64 0, .slice none 0 0]) := by rw [hw2]; exact (((R1.out.alloc _).alloc _).alloc _).alloc _
    have B2 : Hid (Below w.heap.size w w2) := by rw [hw2]; exact bal5 (bal5 (bal5 (bal5 B1.out _) _) _) _
    have Z2 : Hid (w.heap.size + 2 ≤ w2.heap.size) := by have h9 := Z1.out; rw [hw2]; show _ ≤ _; simp only [size_al]; omega
    have RC := hid (icollect K M G U f t h1 h2 h6 h7 (by omega) _ _ _ w2 F2 E2 L2)
    clear hw2 R1 B1 Z1 C1 c0 c1 c2 L2 F2 E2
    go_wp2_with fail
    refine RC.out.mono ?_
    rintro e w3 ⟨v, rfl, hO, hb3⟩
    have R3 : Hid (RowAt w3 (w.heap.size + 1) 30 #[.int .i64 0, .slice none 0 0]) := R2.out.below hb3 R2.out.lt
    have B3 : Hid (Below w.heap.size w w3) := B2.out.trans (hb3.mono B2.out.size)
    obtain ⟨a5, c5, rfl, _⟩ := hO.rngs
    have HRg := hid (hO.own rfl)
    have hs3 := hb3.size
    clear RC R2 B2 hb3 hO
    go_wp2_with (refine wpList_store_row rfl 30 (.tmp 10) (.tmp 42) rfl (w.heap.size + 1) #[.int .i64 0, .slice a5 (rgN U f t) c5] rfl rfl _ _ R3.out (by kernel_rfl) rfl (oneR _ _ _ _) ?_)
    refine bodyPost_ret (v := rsv 0 a5 (rgN U f t) c5) ?_ rfl ⟨a5, c5, rfl, ?_, below_setRow B3.out _ _ (by omega)⟩
    · exact results_cell_row Try.results9 _ _ (w.heap.size + 1) _ _ _ _ rfl (R3.out.setRow _) Try.underlying30 rfl (by kernel_rfl)
    · have h8 := Z2.out
      exact (HRg.out.setRow (w.heap.size + 1) _ (by omega)).mono (by omega) (by rw [setRow_size]; omega)
  · have e3 : (f : Int) + (c : Int) = (t : Int) := by have := HD.out; omega
    clear HD e2
    go_wp2_with fail
    refine (iranges K M G U f t _).mono ?_
    rintro e w2 ⟨rfl, hw2⟩
    have L2 : RowAt w2 (w1.heap.size + 1) 37 (lya K M G U) := by rw [hw2]; exact ((RowAt.next _ _ _ (by rw [size_al])).alloc _).alloc _
    have F2 : RowAt w2 (w1.heap.size + 1 + 1) 2 #[.int .i64 (f : Int)] := by rw [hw2]; exact (RowAt.next _ _ _ (by simp only [size_al])).alloc _
    have E2 : RowAt w2 (w1.heap.size + 1 + 1 + 1) 2 #[.int .i64 (t : Int)] := by rw [hw2]; exact RowAt.next _ _ _ (by simp only [size_al])
    have R2 : Hid (RowAt w2 (w.heap.size + 1) 30 #[.int .i64 0, .slice none 0 0]) := by rw [hw2]; exact (((R1.out.alloc _).alloc _).alloc _).alloc _
    have B2 : Hid (Below w.heap.size w w2) := by rw [hw2]; exact bal5 (bal5 (bal5 (bal5 B1.out _) _) _) _
    have Z2 : Hid (w.heap.size + 2 ≤ w2.heap.size) := by have h9 := Z1.out; rw [hw2]; show _ ≤ _; simp only [size_al]; omega
    have RC := hid (icollect K M G U f t h1 h2 h6 h7 (by omega) _ _ _ w2 F2 E2 L2)
    clear hw2 R1 B1 Z1 C1 c0 c1 c2 L2 F2 E2
    go_wp2_with fail
    refine RC.out.mono ?_
    rintro e w3 ⟨v, rfl, hO, hb3⟩
    have R3 : Hid (RowAt w3 (w.heap.size + 1) 30 #[.int .i64 0, .slice none 0 0]) := R2.out.below hb3 R2.out.lt
    have B3 : Hid (Below w.heap.size w w3) := B2.out.trans (hb3.mono B2.out.size)
    obtain ⟨a5, c5, rfl, _⟩ := hO.rngs
    have HRg := hid (hO.own rfl)
    have hs3 := hb3.size
    clear RC R2 B2 hb3 hO
    go_wp2_with (refine wpList_store_row rfl 30 (.tmp 10) (.tmp 42) rfl (w.heap.size + 1) #[.int .i64 0, .slice a5 (rgN U f t) c5] rfl rfl _ _ R3.out (by kernel_rfl) rfl (oneR _ _ _ _) ?_)
    refine bodyPost_ret (v := rsv 0 a5 (rgN U f t) c5) ?_ rfl ⟨a5, c5, rfl, ?_, below_setRow B3.out _ _ (by omega)⟩
    · exact results_cell_row Try.results9 _ _ (w.heap.size + 1) _ _ _ _ rfl (R3.out.setRow _) Try.underlying30 rfl (by kernel_rfl)
    · have h8 := Z2.out
      exact (HRg.out.setRow (w.heap.size + 1) _ (by omega)).mono (by omega) (by rw [setRow_size]; omega)
theorem irng_ok (K M G U S f c f1 c1 : Nat) (w : World) (h1 : 1 ≤ K) (h2 : K ≤ 32) (_ : M ≤ 16) (_ : G ≤ K) (_ : K + M + G ≤ 64) (h6 : 1 ≤ U) (h7 : U ≤ 4096) (h8 : S ≤ 100000) (h9 : f ≤ 9223372036854775807) (_ : c ≤ 9223372036854775807) (hn : stripeN K M G U S ≠ -1) (hf : f1 = min f S) (hc : c1 = min c (S - f1)) :
    Calls Try.prog 9 #[cdv K M G, .int .i64 U, .int .i64 S, .int .i64 f, .int .i64 c] w fun e w' => AnsRI 0 (rgN U f1 (f1 + c1)) (fun p => ((rgC K U f1 (f1 + c1) p : Nat) : Int)) w e w' := by
  by_cases hfs : f ≤ S
  · have e1 : f1 = f := by omega
    subst e1
    exact irng_ok0 K M G U S f1 c (f1 + c1) h1 h2 h6 h7 h8 h9 hn (by omega) w
  · have e1 : f1 = S := by omega
    have e2 : c1 = 0 := by omega
    subst e1 e2
    have z1 : rgN U f f1 = 0 := if_neg (by omega)
    have z2 : rgN U f1 (f1 + 0) = 0 := if_neg (by omega)
    refine (irng_ok0 K M G U f1 f c f1 h1 h2 h6 h7 h8 h9 hn (by omega) w).mono ?_
    intro e w' h
    exact ans_move (by rw [z1, z2]) (Or.inl z1) h
end Go.Proofs.Ythdmaamocejodaa
