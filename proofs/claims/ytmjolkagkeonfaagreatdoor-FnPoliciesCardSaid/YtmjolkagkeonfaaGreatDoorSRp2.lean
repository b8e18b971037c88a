import Derived.Test.YtmjolkagkeonfaaGreatDoorG13
import Derived.Deep.CutRange
import Derived.Deep.CutBlock
namespace Go.Proofs.YtmjolkagkeonfaaGreatDoor
open Go.RowKit
set_option linter.unusedVariables false
/-! The specification's l09Line, where the line has its form. -/
theorem append_cnS {ops : Array Oper} {rest : List Oper} {o : Oper} {a : Act} {Q : Exit → Act → World → Prop} (base : Nat) (wr : World) (hgd : o.guard = none) (s x : Operand)
    (ho : o.op = .call { callee := .builtin .append, args := #[s, x], argTypes := #[71, 71] })
    (v : Value) (L : List Cn) (e : Cn) (n : Nat) (hn : (L ++ [e]).length = n) (hs : a.eval s = v) (hown : OwnCn wr base v L) (hsz : base ≤ wr.heap.size)
    (hx : a.eval x = .slice (some ⟨wr.heap.size, 0, none⟩) 1 1) (hlen : L.length ≤ 1048576)
    (h : ∀ a' c' w', OwnCn w' base (.slice a' n c') (L ++ [e]) → wr.grownBy w' v.ownBlock → wpList Tryz.prog ops Q rest (a.put o.dst (.slice a' n c')) w') :
    wpList Tryz.prog ops Q (o :: rest) a (wr.alloc (.cells #[.int .i64 e.kd, .string e.tx, .int .i64 e.tm] 83)) := by
  refine append_cn base wr hgd s x ho v L e hs hown hsz hx hlen fun v' w' h1 h2 => ?_
  obtain ⟨a', c', rfl⟩ := h1.slice
  rw [hn] at h1 ⊢
  exact h a' c' w' h1 h2
theorem efV_1 {b : ByteArray} (h : isW b kAllow) : efV b = 1 := by unfold efV; rw [if_pos h]
theorem efV_2 {b : ByteArray} (h : isW b kDeny) : efV b = 2 := by unfold efV; rw [if_neg (isW_ne h (by decide)), if_pos h]
theorem efV_0 {b : ByteArray} (h1 : ¬ isW b kAllow) (h : ¬ isW b kDeny) : efV b = 0 := by unfold efV; rw [if_neg h1, if_neg h]
theorem cdS_1 {a b : ByteArray} (h : isW a kPrefix) : cdS a b = ⟨1, b, 0⟩ := by unfold cdS; rw [if_pos h]
theorem cdS_4 {a b : ByteArray} (h : isW a kFrom) : cdS a b = ⟨4, b, 0⟩ := by unfold cdS; rw [if_neg (isW_ne h (by decide)), if_pos h]
theorem cdS_2 {a b : ByteArray} (h : isW a kBefore) : cdS a b = ⟨2, ⟨#[]⟩, timV b⟩ := by unfold cdS; rw [if_neg (isW_ne h (by decide)), if_neg (isW_ne h (by decide)), if_pos h]
theorem cdS_3 {a b : ByteArray} (h : isW a kAfter) : cdS a b = ⟨3, ⟨#[]⟩, timV b⟩ := by unfold cdS; rw [if_neg (isW_ne h (by decide)), if_neg (isW_ne h (by decide)), if_neg (isW_ne h (by decide)), if_pos h]
theorem cdS_0 {a b : ByteArray} (h1 : ¬ isW a kPrefix) (h2 : ¬ isW a kFrom) (h3 : ¬ isW a kBefore) (h4 : ¬ isW a kAfter) : cdS a b = ⟨0, ⟨#[]⟩, 0⟩ := by unfold cdS; rw [if_neg h1, if_neg h2, if_neg h3, if_neg h4]
set_option maxRecDepth 20000 in
set_option maxHeartbeats 32000000 in
theorem sLine_ok (ws : List ByteArray) (hws : ws.length ≤ 1000001 ∧ ∀ x ∈ ws, x.size ≤ 1000000) (hf : frmP ws) (g n c : Nat) (hl : n = ws.length) (w : World) (h : Strs w (some ⟨g, 0, none⟩) n c (atB ws)) :
    Calls Tryz.prog 43 #[.slice (some ⟨g, 0, none⟩) n c] w fun e w' => LnO w ws e w' := by
  obtain ⟨W1, hW1⟩ : ∃ W, W = (w.alloc (.cells #[.int .i64 0, .slice none 0 0, .slice none 0 0, .slice none 0 0, .slice none 0 0] 73)).alloc (.cells #[.int .i64 0, .slice none 0 0, .slice none 0 0, .slice none 0 0, .slice none 0 0] 73) := ⟨_, rfl⟩
  have b1 : Below w.heap.size w W1 := by rw [hW1]; exact ((Below.refl _ _).alloc (Nat.le_refl _) _).alloc (by rw [size_al]; omega) _
  have S1 : Hid (Sk w W1 #[.int .i64 0, .slice none 0 0, .slice none 0 0, .slice none 0 0, .slice none 0 0]) := ⟨b1, by rw [hW1]; exact (RowAt.new _ _ _).alloc _, by rw [hW1]; exact RowAt.next _ _ _ (by rw [size_al])⟩
  have Z1 : Hid (w.heap.size + 2 ≤ W1.heap.size) := by show _ ≤ _; rw [hW1, size_al, size_al]; exact Nat.le_refl _
  have hgl : Hid (g < w.heap.size) := by
    rcases h.2 with q | ⟨b', off, e, hb', _⟩
    · have := hf.1; omega
    · cases e; exact hb'
  have cw : Hid (∀ wx, Below w.heap.size w wx → ∀ i, i < n → wx.cell? ⟨g, i, none⟩ = some (.string (atB ws i))) := fun wx hb i hi => by
    rcases h.2 with q | ⟨b', off, e, hb', hc⟩
    · omega
    · cases e
      have := (hb.cell (p := ⟨g, 0 + i, none⟩) hb').trans (hc i hi)
      rwa [Nat.zero_add] at this
  have HF := hid hf
  have SZ : Hid (∀ i, i < n → (atB ws i).size ≤ 1000000) := fun i hi => hws.2 _ (atB_mem (by omega))
  have HWS := hid hws
  have HL := hid hl
  clear h b1
  obtain ⟨h7, h2, q1, q3, q5⟩ := hf
  have hnb : n ≤ 1000001 := by omega
  have d0 : ¬ (n : Int) < 7 := by omega
  have d1 : ((n : Int).tmod 2 == 0) = false := by rw [beq_eq_false_iff_ne, Int.tmod_eq_emod_of_nonneg (by omega)]; omega
  have d1' : ¬ (n : Int) % 2 = 0 := by omega
  have d1b : ((n : Int) % 2 == 0) = false := by rw [beq_eq_false_iff_ne]; omega
  have hodd : n % 2 = 1 := by omega
  have hn7 : 7 ≤ n := by omega
  obtain ⟨t0, ht0⟩ : ∃ x, x = atB ws 0 := ⟨_, rfl⟩
  obtain ⟨t1, ht1⟩ : ∃ x, x = atB ws 1 := ⟨_, rfl⟩
  obtain ⟨t3, ht3⟩ : ∃ x, x = atB ws 3 := ⟨_, rfl⟩
  obtain ⟨t5, ht5⟩ : ∃ x, x = atB ws 5 := ⟨_, rfl⟩
  have e0 := cw.out W1 S1.out.bw 0 (by omega)
  have e1 := cw.out W1 S1.out.bw 1 (by omega)
  have e3 := cw.out W1 S1.out.bw 3 (by omega)
  have e5 := cw.out W1 S1.out.bw 5 (by omega)
  rw [← ht0] at e0
  rw [← ht1] at e1 q1
  rw [← ht3] at e3 q3
  rw [← ht5] at e5 q5
  have HT0 := hid ht0
  have g0 : (0 : Int) < (n : Int) := by omega
  have g1 : (1 : Int) < (n : Int) := by omega
  have g3 : (3 : Int) < (n : Int) := by omega
  have g5 : (5 : Int) < (n : Int) := by omega
  have b1 : (t1.toList == [119, 104, 111]) = true := eqW_t q1
  have b3 : (t3.toList == [100, 111]) = true := eqW_t q3
  have b5 : (t5.toList == [111, 110]) = true := eqW_t q5
  clear ht0 ht1 ht3 ht5 q1 q3 q5 h2 h7 hws hl
  obtain ⟨EF, hEF⟩ : ∃ x, x = efV t0 := ⟨_, rfl⟩
  have HEF := hid hEF
  clear hEF
  go_enter Tryz.func43, Tryz.ntmps43
  go_upto_region 2 with fail
  rw [← hW1]
  clear hW1
  go_upto_block 0 with fail
  go_cut [] from 39 to 44 (fun wx => Sk w wx #[.int .i64 EF, .slice none 0 0, .slice none 0 0, .slice none 0 0, .slice none 0 0] ∧ W1.heap.size ≤ wx.heap.size)
  case first =>
    have x0 := S1.out.r1.cell 0
    have f0 := S1.out.r1.free 0
    by_cases h1 : isW t0 kAllow
    · have p1 : (t0.toList == [97, 108, 108, 111, 119]) = true := eqW_t h1
      have E1 := hid (HEF.out.trans (efV_1 h1))
      clear h1
      go_wp2_with fail
      go_meet
      exact ⟨by rw [E1.out]; exact S1.out.set 0 _, by simp⟩
    · have p1 : (t0.toList == [97, 108, 108, 111, 119]) = false := eqW_f h1
      by_cases h2 : isW t0 kDeny
      · have p2 : (t0.toList == [100, 101, 110, 121]) = true := eqW_t h2
        have E1 := hid (HEF.out.trans (efV_2 h2))
        clear h1 h2
        go_wp2_with fail
        go_meet
        exact ⟨by rw [E1.out]; exact S1.out.set 0 _, by simp⟩
      · have p2 : (t0.toList == [100, 101, 110, 121]) = false := eqW_f h2
        have E1 := hid (HEF.out.trans (efV_0 h1 h2))
        clear h1 h2
        go_wp2_with fail
        go_meet
        exact ⟨by rw [E1.out]; exact S1.out, Nat.le_refl _⟩
  case rest =>
    obtain ⟨hS2, hz2⟩ := hcut
    obtain ⟨W2, hW2⟩ : ∃ W, W = wc := ⟨_, rfl⟩
    rw [← hW2] at hS2 hz2 ⊢
    have S2 := hid hS2
    have Z2 : Hid (w.heap.size + 2 ≤ W2.heap.size) := Nat.le_trans Z1.out hz2
    clear hS2 hz2 hW2 S1 Z1 e0 e1 e3 e5 b1 b3 b5 d0 d1 d1' d1b
    obtain ⟨t2, ht2⟩ : ∃ x, x = atB ws 2 := ⟨_, rfl⟩
    obtain ⟨t4, ht4⟩ : ∃ x, x = atB ws 4 := ⟨_, rfl⟩
    obtain ⟨t6, ht6⟩ : ∃ x, x = atB ws 6 := ⟨_, rfl⟩
    have HT2 := hid ht2
    have HT4 := hid ht4
    have HT6 := hid ht6
    have z2 : t2.size ≤ 1048576 := by rw [ht2]; have := SZ.out 2 (by omega); omega
    have z4 : t4.size ≤ 1048576 := by rw [ht4]; have := SZ.out 4 (by omega); omega
    have z6 : t6.size ≤ 1048576 := by rw [ht6]; have := SZ.out 6 (by omega); omega
    have g2 : (2 : Int) < (n : Int) := by omega
    have g4 : (4 : Int) < (n : Int) := by omega
    have g6 : (6 : Int) < (n : Int) := by omega
    have e2 := cw.out W2 S2.out.bw 2 (by omega)
    rw [← ht2] at e2
    clear ht2 ht4 ht6
    have K := hid (sSplit t2 z2 44 W2)
    go_wp2_with fail
    refine K.out.mono ?_
    rintro e w3 ⟨⟨v1, rfl, hO⟩, hB⟩
    obtain ⟨a1, c1, rfl⟩ := hO.slice
    obtain ⟨s1, hs1⟩ : ∃ x, x = splB 44 t2 := ⟨_, rfl⟩
    rw [← hs1] at hO ⊢
    obtain ⟨n1, hn1⟩ : ∃ x, x = s1.length := ⟨_, rfl⟩
    rw [← hn1] at hO ⊢
    have O1 := hid hO
    have S3 := hid (S2.out.below hB)
    have G3 : Hid (W2.heap.size ≤ w3.heap.size) := hB.size
    have B1 : Hid (blt (.slice a1 n1 c1) w3.heap.size) := fun g' e => (O1.out.row e).2.1
    have HS1 := hid hs1
    clear hO hB K S2 hs1 hn1 e2
    obtain ⟨X0, hX0⟩ : ∃ x, x = W2.heap.size := ⟨_, rfl⟩
    rw [← hX0] at O1 G3 Z2
    clear hX0
    obtain ⟨W4, hW4⟩ : ∃ W, W = w3.setCell ⟨w.heap.size + 1, 1, none⟩ (.slice a1 n1 c1) := ⟨_, rfl⟩
    have g4' : w3.grownBy W4 (some (w.heap.size + 1)) := by rw [hW4]; exact grown_set
    have S4 : Hid (Sk w W4 #[.int .i64 EF, .slice a1 n1 c1, .slice none 0 0, .slice none 0 0, .slice none 0 0]) := by rw [hW4]; exact S3.out.set 1 _
    have Z4 : Hid (w3.heap.size = W4.heap.size) := by show _ = _; rw [hW4]; simp
    have P1 : Hid (OwnStrs W4 X0 (.slice a1 n1 c1) s1) := O1.out.farX g4' (by have := Z2.out; omega)
    have x0 := S3.out.r1.cell 1
    have y0 := S3.out.r1.free 1
    rw [Z4.out] at B1 G3
    clear S3 O1 g4' Z4
    go_upto_region 10 with fail
    rw [← hW4]
    clear hW4 x0 y0
    have e4 := cw.out W4 S4.out.bw 4 (by omega)
    rw [← HT4.out] at e4
    have K := hid (sSplit t4 z4 44 W4)
    go_wp2_with fail
    refine K.out.mono ?_
    rintro e w5 ⟨⟨v2, rfl, hO⟩, hB⟩
    obtain ⟨a2, c2, rfl⟩ := hO.slice
    obtain ⟨s2, hs2⟩ : ∃ x, x = splB 44 t4 := ⟨_, rfl⟩
    rw [← hs2] at hO ⊢
    obtain ⟨n2, hn2⟩ : ∃ x, x = s2.length := ⟨_, rfl⟩
    rw [← hn2] at hO ⊢
    have O2 := hid hO
    have S5 := hid (S4.out.below hB)
    have G5 : Hid (W4.heap.size ≤ w5.heap.size) := hB.size
    have B2 : Hid (blt (.slice a2 n2 c2) w5.heap.size) := fun g' e => (O2.out.row e).2.1
    have P1' : Hid (OwnStrs w5 X0 (.slice a1 n1 c1) s1) := P1.out.below hB
    have HS2 := hid hs2
    clear hO hB K S4 hs2 hn2 P1 e4
    obtain ⟨X1, hX1⟩ : ∃ x, x = W4.heap.size := ⟨_, rfl⟩
    rw [← hX1] at O2 G5 G3 B1
    clear hX1
    obtain ⟨W5, hW5⟩ : ∃ W, W = w5.setCell ⟨w.heap.size + 1, 2, none⟩ (.slice a2 n2 c2) := ⟨_, rfl⟩
    have g5' : w5.grownBy W5 (some (w.heap.size + 1)) := by rw [hW5]; exact grown_set
    have S6 : Hid (Sk w W5 #[.int .i64 EF, .slice a1 n1 c1, .slice a2 n2 c2, .slice none 0 0, .slice none 0 0]) := by rw [hW5]; exact S5.out.set 2 _
    have Z5 : Hid (w5.heap.size = W5.heap.size) := by show _ = _; rw [hW5]; simp
    have P1 : Hid (OwnStrs W5 X0 (.slice a1 n1 c1) s1) := P1'.out.farX g5' (by have := Z2.out; omega)
    have P2 : Hid (OwnStrs W5 X1 (.slice a2 n2 c2) s2) := O2.out.farX g5' (by have := Z2.out; have := G3.out; omega)
    have x0 := S5.out.r1.cell 2
    have y0 := S5.out.r1.free 2
    rw [Z5.out] at B2 G5
    clear S5 O2 g5' Z5 P1'
    go_upto_region 11 with fail
    rw [← hW5]
    clear hW5 x0 y0
    have e6 := cw.out W5 S6.out.bw 6 (by omega)
    rw [← HT6.out] at e6
    have K := hid (sSplit t6 z6 44 W5)
    go_wp2_with fail
    refine K.out.mono ?_
    rintro e w6 ⟨⟨v3, rfl, hO⟩, hB⟩
    obtain ⟨a3, c3, rfl⟩ := hO.slice
    obtain ⟨s3, hs3⟩ : ∃ x, x = splB 44 t6 := ⟨_, rfl⟩
    rw [← hs3] at hO ⊢
    obtain ⟨n3, hn3⟩ : ∃ x, x = s3.length := ⟨_, rfl⟩
    rw [← hn3] at hO ⊢
    have O4 := hid hO
    have S7 := hid (S6.out.below hB)
    have G6 : Hid (W5.heap.size ≤ w6.heap.size) := hB.size
    have B3 : Hid (blt (.slice a3 n3 c3) w6.heap.size) := fun g' e => (O4.out.row e).2.1
    have P1' : Hid (OwnStrs w6 X0 (.slice a1 n1 c1) s1) := P1.out.below hB
    have P2' : Hid (OwnStrs w6 X1 (.slice a2 n2 c2) s2) := P2.out.below hB
    have HS3 := hid hs3
    clear hO hB K S6 hs3 hn3 P1 P2 e6
    obtain ⟨X2, hX2⟩ : ∃ x, x = W5.heap.size := ⟨_, rfl⟩
    rw [← hX2] at O4 G6 G5 B2
    clear hX2
    obtain ⟨W6, hW6⟩ : ∃ W, W = w6.setCell ⟨w.heap.size + 1, 3, none⟩ (.slice a3 n3 c3) := ⟨_, rfl⟩
    have g6' : w6.grownBy W6 (some (w.heap.size + 1)) := by rw [hW6]; exact grown_set
    have S8 : Hid (Sk w W6 #[.int .i64 EF, .slice a1 n1 c1, .slice a2 n2 c2, .slice a3 n3 c3, .slice none 0 0]) := by rw [hW6]; exact S7.out.set 3 _
    have Z6 : Hid (w6.heap.size = W6.heap.size) := by show _ = _; rw [hW6]; simp
    have x0 := S7.out.r1.cell 3
    have y0 := S7.out.r1.free 3
    rw [Z6.out] at B3 G6
    have OO : Hid (O3 W6 X0 X1 X2 W6.heap.size (.slice a1 n1 c1) (.slice a2 n2 c2) (.slice a3 n3 c3) s1 s2 s3) := ⟨P1'.out.farX g6' (by have := Z2.out; omega), P2'.out.farX g6' (by have := Z2.out; have := G3.out; omega), O4.out.farX g6' (by have := Z2.out; have := G3.out; have := G5.out; omega), B1.out, B2.out, B3.out, G3.out, G5.out, G6.out⟩
    clear S7 O4 g6' Z6 P1' P2' B1 B2 B3
    go_upto_region 12 with fail
    rw [← hW6]
    clear hW6 x0 y0
    have ZX : Hid (w.heap.size + 2 ≤ X0) := Z2.out
    obtain ⟨X3, hX3⟩ : ∃ x, x = W6.heap.size := ⟨_, rfl⟩
    rw [← hX3] at OO
    have X3le : Hid (X3 ≤ W6.heap.size) := by show _ ≤ _; rw [hX3]; exact Nat.le_refl _
    clear hX3
    have ZX3 : Hid (w.heap.size + 2 ≤ X3) := by have := OO.out.le; have := ZX.out; show _ ≤ _; omega
    clear Z2 G3 G5 G6
    go_wp2_with fail
    go_loopw [5] (fun v5 wr => ∃ (j : Nat) (a4 : Option Addr) (c4 : Nat) (cs : List Cn), cs = cdsS ((ws.drop 7).take (2 * j)) ∧ cs.length = j ∧ 7 + 2 * j ≤ n ∧ v5 = .int .i64 ((7 + 2 * j : Nat) : Int) ∧ Sk w wr #[.int .i64 EF, .slice a1 n1 c1, .slice a2 n2 c2, .slice a3 n3 c3, .slice a4 j c4] ∧ OwnCn wr X3 (.slice a4 j c4) cs ∧ O3 wr X0 X1 X2 X3 (.slice a1 n1 c1) (.slice a2 n2 c2) (.slice a3 n3 c3) s1 s2 s3 ∧ X3 ≤ wr.heap.size) (fun v5 _ => n + 1 - (intOf v5).toNat)
    case atStart => exact ⟨0, none, 0, [], by simp [cdsS], rfl, hn7, rfl, S8.out, OwnCn.nil _ _, OO.out, X3le.out⟩
    case round =>
      obtain ⟨j, a4, c4, cs, hcs, hj, hjl, rfl, hS, hO, h3, hx3⟩ := hrel
      have S := hid hS
      have O := hid hO
      have OX := hid h3
      have HC := hid hcs
      have HJ := hid hj
      have HX := hid hx3
      clear hS hO h3 hcs hj hx3 S8 OO X3le
      obtain ⟨I, hI⟩ : ∃ I, I = 7 + 2 * j := ⟨_, rfl⟩
      rw [← hI] at hjl ⊢
      have HI := hid hI
      have hIb : I ≤ 1000001 := by omega
      have I0 : (0 : Int) ≤ (I : Int) := by omega
      by_cases hlt : I + 1 < n
      · have d3 : (I : Int) + 1 < (n : Int) := by omega
        have d3' : (I : Int) < (n : Int) := by omega
        have I1 : (0 : Int) ≤ (I : Int) + 1 := by omega
        clear hI
        obtain ⟨A, hA⟩ : ∃ x, x = atB ws I := ⟨_, rfl⟩
        obtain ⟨V, hV⟩ : ∃ x, x = atB ws (I + 1) := ⟨_, rfl⟩
        have hVs : V.size ≤ 1048576 := by rw [hV]; have := SZ.out (I + 1) hlt; omega
        obtain ⟨W7, hW7⟩ : ∃ W, W = wr.alloc (.cells #[.int .i64 0, .string ⟨#[]⟩, .int .i64 0] 83) := ⟨_, rfl⟩
        have b7 : Below wr.heap.size wr W7 := by rw [hW7]; exact (Below.refl _ _).alloc (Nat.le_refl _) _
        have R7 : Hid (RowAt W7 wr.heap.size 83 #[.int .i64 0, .string ⟨#[]⟩, .int .i64 0]) := by rw [hW7]; exact RowAt.new _ _ _
        have S7 := hid (S.out.below b7)
        have cA := cw.out W7 S7.out.bw I (by omega)
        rw [← hA] at cA
        have CV : Hid (∀ wx, Below w.heap.size w wx → wx.cell? ⟨g, I + 1, none⟩ = some (.string V)) := fun wx hb => by rw [hV]; exact cw.out wx hb (I + 1) hlt
        have NX : Hid (cs ++ [cdS A V] = cdsS ((ws.drop 7).take (2 * (j + 1)))) := by
          show _ = _
          rw [cdsS_take (by have := HI.out; have := HL.out; omega), HC.out, hA, hV, HI.out]
        have B7 := hid b7
        have hwr : Hid (w.heap.size + 2 ≤ wr.heap.size) := Nat.le_trans ZX3.out HX.out
        clear hA hV b7
        obtain ⟨CD, hCD⟩ : ∃ x, x = cdS A V := ⟨_, rfl⟩
        have HCD := hid hCD
        rw [← hCD] at NX
        clear hCD
        obtain ⟨XC, hXC⟩ : ∃ x, x = wr.heap.size := ⟨_, rfl⟩
        rw [← hXC] at R7 hwr
        have HXC := hid hXC
        go_upto_region 16 with fail
        rw [← hW7, ← hXC]
        clear hW7 hXC
        go_upto_block 3 with fail
        go_cut [] from 60 to 115 (fun wx => RowAt wx XC 83 #[.int .i64 CD.kd, .string CD.tx, .int .i64 CD.tm] ∧ W7.grownBy wx (some XC))
        case first =>
          have x0 := R7.out.cell 0
          have f0 := R7.out.free 0
          have NE : Hid (∀ u, Below w.heap.size w (W7.setCell ⟨XC, 0, none⟩ u)) := fun u => S7.out.bw.setCell (by have := hwr.out; dsimp only; omega) _
          by_cases h1 : isW A kPrefix
          · have p1 : (A.toList == [112, 114, 101, 102, 105, 120]) = true := eqW_t h1
            have E1 := hid (HCD.out.trans (cdS_1 (b := V) h1))
            have cV := CV.out _ (NE.out (.int .i64 1))
            have x1 := (R7.out.set 0 (.int .i64 1)).cell 1
            have f1 := (R7.out.set 0 (.int .i64 1)).free 1
            clear h1
            go_wp2_with fail
            go_meet
            exact ⟨by rw [E1.out]; exact (R7.out.set 0 _).set 1 _, grown_trans grown_set grown_set⟩
          have p1 : (A.toList == [112, 114, 101, 102, 105, 120]) = false := eqW_f h1
          by_cases h2 : isW A kFrom
          · have p2 : (A.toList == [102, 114, 111, 109]) = true := eqW_t h2
            have E1 := hid (HCD.out.trans (cdS_4 (b := V) h2))
            have cV := CV.out _ (NE.out (.int .i64 4))
            have x1 := (R7.out.set 0 (.int .i64 4)).cell 1
            have f1 := (R7.out.set 0 (.int .i64 4)).free 1
            clear h1 h2
            go_wp2_with fail
            go_meet
            exact ⟨by rw [E1.out]; exact (R7.out.set 0 _).set 1 _, grown_trans grown_set grown_set⟩
          have p2 : (A.toList == [102, 114, 111, 109]) = false := eqW_f h2
          by_cases h3 : isW A kBefore
          · have p3 : (A.toList == [98, 101, 102, 111, 114, 101]) = true := eqW_t h3
            have E1 := hid (HCD.out.trans (cdS_2 (b := V) h3))
            have cV := CV.out _ (NE.out (.int .i64 2))
            have KT := hid (sTime V hVs (W7.setCell ⟨XC, 0, none⟩ (.int .i64 2)))
            clear h1 h2 h3
            go_wp2_with fail
            refine KT.out.mono ?_
            rintro e w8 ⟨rfl, hb8⟩
            have R8 := hid ((R7.out.set 0 (.int .i64 2)).below hb8 (R7.out.set 0 (.int .i64 2)).lt)
            have G8 : Hid (W7.grownBy w8 (some XC)) := grown_trans grown_set (below_grown hb8 _)
            have x1 := R8.out.cell 2
            have f1 := R8.out.free 2
            clear hb8 KT
            go_wp2_with fail
            go_meet
            exact ⟨by rw [E1.out]; exact R8.out.set 2 _, grown_trans G8.out grown_set⟩
          have p3 : (A.toList == [98, 101, 102, 111, 114, 101]) = false := eqW_f h3
          by_cases h4 : isW A kAfter
          · have p4 : (A.toList == [97, 102, 116, 101, 114]) = true := eqW_t h4
            have E1 := hid (HCD.out.trans (cdS_3 (b := V) h4))
            have cV := CV.out _ (NE.out (.int .i64 3))
            have KT := hid (sTime V hVs (W7.setCell ⟨XC, 0, none⟩ (.int .i64 3)))
            clear h1 h2 h3 h4
            go_wp2_with fail
            refine KT.out.mono ?_
            rintro e w8 ⟨rfl, hb8⟩
            have R8 := hid ((R7.out.set 0 (.int .i64 3)).below hb8 (R7.out.set 0 (.int .i64 3)).lt)
            have G8 : Hid (W7.grownBy w8 (some XC)) := grown_trans grown_set (below_grown hb8 _)
            have x1 := R8.out.cell 2
            have f1 := R8.out.free 2
            clear hb8 KT
            go_wp2_with fail
            go_meet
            exact ⟨by rw [E1.out]; exact R8.out.set 2 _, grown_trans G8.out grown_set⟩
          have p4 : (A.toList == [97, 102, 116, 101, 114]) = false := eqW_f h4
          have E1 := hid (HCD.out.trans (cdS_0 (b := V) h1 h2 h3 h4))
          clear h1 h2 h3 h4
          go_wp2_with fail
          go_meet
          exact ⟨by rw [E1.out]; exact R7.out, below_grown (Below.refl _ _) _⟩
        case rest =>
          obtain ⟨hR8, hg8⟩ := hcut
          obtain ⟨W8, hW8⟩ : ∃ W, W = wc := ⟨_, rfl⟩
          rw [← hW8] at hR8 hg8 ⊢
          have S8 : Hid (Sk w W8 #[.int .i64 EF, .slice a1 n1 c1, .slice a2 n2 c2, .slice a3 n3 c3, .slice a4 j c4]) := S7.out.far hg8 (fun x hx => by cases hx; exact hwr.out)
          have O8 : Hid (OwnCn W8 X3 (.slice a4 j c4) cs) := (O.out.below B7.out).keep fun g' cs' e' hr' => (hg8.block g' hr'.lt fun z => by have := Option.some.inj z; have := (O.out.row e').2.1; have := HXC.out; omega).trans hr'
          have X8 : Hid (O3 W8 X0 X1 X2 X3 (.slice a1 n1 c1) (.slice a2 n2 c2) (.slice a3 n3 c3) s1 s2 s3) := (OX.out.far (below_grown B7.out none) (fun x hx => by cases hx)).far hg8 (fun x hx => by cases hx; right; have := HX.out; have := HXC.out; omega)
          have Z8 : Hid (X3 ≤ W8.heap.size) := by have h1 := HX.out; have h2 := B7.out.size; have h3 := hg8.size; show _ ≤ _; omega
          have k0 := hR8.cell 0
          have k1 := hR8.cell 1
          have k2 := hR8.cell 2
          have k4 := S8.out.r1.cell 4
          clear hR8 hg8 hW8 S7 R7 O OX cA S
          have L9 : Hid ((cs ++ [CD]).length = j + 1) := by have := HJ.out; show _ = _; simp; omega
          go_wp2_with (refine append_cnS X3 W8 (by rfl) (.tmp 111) (.tmp 113) (by rfl) _ cs CD (j + 1) L9.out (by rfl) O8.out Z8.out (by rfl) (by have := HJ.out; have := HI.out; omega) ?_; intro a9 c9 w9 hO9 hg9; have S9 : Hid (Sk w w9 #[.int .i64 EF, .slice a1 n1 c1, .slice a2 n2 c2, .slice a3 n3 c3, .slice a4 j c4]) := (S8.out.far hg9 (fun x hx => by have := (O8.out.row hx).1; have := ZX3.out; omega)); have y1 := S9.out.r1.cell 4; have y2 := S9.out.r1.free 4)
          have X9 := hid (X8.out.far hg9 (fun x hx => .inr (O8.out.row hx).1))
          have Z9 : Hid (X3 ≤ w9.heap.size) := Nat.le_trans Z8.out hg9.size
          have O9 := hid hO9
          have SA := hid (S9.out.set 4 (.slice a9 (j + 1) c9))
          have OA := hid (O9.out.farX (grown_set (c := w.heap.size + 1) (o := 4) (u := .slice a9 (j + 1) c9)) (by have := ZX3.out; omega))
          have XA := hid (X9.out.far (grown_set (c := w.heap.size + 1) (o := 4) (u := .slice a9 (j + 1) c9)) (fun x hx => by cases hx; have := ZX.out; omega))
          have ZA : Hid (X3 ≤ (w9.setCell ⟨w.heap.size + 1, 4, none⟩ (.slice a9 (j + 1) c9)).heap.size) := by have := Z9.out; show _ ≤ _; simp; omega
          clear hO9 hg9 S8 O8 X8 k0 k1 k2 k4 S9 O9 X9 y1 y2
          go_wp2
          go_roundw
          case rel => exact ⟨j + 1, a9, c9, cs ++ [CD], NX.out, L9.out, by have := HI.out; omega, by have := HI.out; congr 1; omega, SA.out, OA.out, XA.out, ZA.out⟩
          case measure => simp [intOf]; omega
      · have d3 : ¬ (I : Int) + 1 < (n : Int) := by omega
        have e : I = n := by omega
        have x0 := S.out.r1.cell 0
        have x1 := S.out.r1.cell 1
        have x2 := S.out.r1.cell 2
        have x3 := S.out.r1.cell 3
        have x4 := S.out.r1.cell 4
        have CE : Hid (cs = cdsS (ws.drop 7)) := by
          show _ = _
          rw [HC.out, List.take_of_length_le]
          rw [List.length_drop]
          have := HL.out
          omega
        clear e hI
        go_upto_region 30 with fail
        obtain ⟨ST, hST⟩ : ∃ s : St, s = ⟨EF, ⟨a1, n1, c1, atB s1⟩, ⟨a2, n2, c2, atB s2⟩, ⟨a3, n3, c3, atB s3⟩, ⟨a4, j, c4, atC cs⟩⟩ := ⟨_, rfl⟩
        have SE : Hid (sS ws = ⟨EF, s1, s2, s3, cs⟩) := by
          show _ = _
          unfold sS
          rw [HEF.out, HT0.out, HS1.out, HS2.out, HS3.out, HT2.out, HT4.out, HT6.out, ← CE.out]
        have PA : ∀ wx, Below wr.heap.size wr wx → Hid (PsAt wx w.heap.size wx.heap.size ST (sS ws)) := fun wx hb => by
          have zx := ZX.out
          have o3 := OX.out.far (below_grown hb none) (fun x hx => by cases hx)
          have oc := O.out.below hb
          have le := o3.le
          show PsAt _ _ _ _ _
          rw [SE.out, hST]
          exact ⟨rfl, ⟨X1, X2, X3, by omega, le.2.1, le.2.2, Nat.le_trans HX.out hb.size, ⟨o3.o1.mono (by omega), o3.b1⟩, ⟨o3.o2, o3.b2⟩, ⟨o3.o3, o3.b3⟩, oc, fun g' e' => (oc.row e').2.1⟩, rfl, rfl, rfl, rfl⟩
        have BB := hid (sS_B HWS.out HF.out.1)
        have KR : ∀ wx, Below wr.heap.size wr wx → _ := fun wx hb => hid (sRight ST ((PA wx hb).out.stB BB.out) wx (PA wx hb).out.in)
        have PIF := hid ((PA wr (Below.refl _ _)).out.iff)
        have PBE : Hid (pb (stP ST) = pb (lnP ws)) := by
          show _ = _
          by_cases q : psP (sS ws)
          · rw [pb_t (PIF.out.2 q), pb_t ⟨HF.out, q⟩]
          · rw [pb_f (fun z => q (PIF.out.1 z)), pb_f (fun z => q z.2)]
        have FIN : Hid (∀ w8, Below wr.heap.size wr w8 → ∀ tm : Array Value, tm.getD 2 undef = .pointer (some ⟨w.heap.size, 0, none⟩) → tm.getD 3 undef = .bool (pb (stP ST)) → bodyPost Tryz.prog Tryz.f43 (fun e w' => LnO w ws e w') Exit.ret { tmps := tm, defers := [] } (((((w8.setCell ⟨w.heap.size, 0, none⟩ (.int .i64 EF)).setCell ⟨w.heap.size, 1, none⟩ (.slice a1 n1 c1)).setCell ⟨w.heap.size, 2, none⟩ (.slice a2 n2 c2)).setCell ⟨w.heap.size, 3, none⟩ (.slice a3 n3 c3)).setCell ⟨w.heap.size, 4, none⟩ (.slice a4 j c4))) := fun w8 hb8 tm h2 h3 => by
          have S8 := S.out.below hb8
          have gs : w8.grownBy (((((w8.setCell ⟨w.heap.size, 0, none⟩ (.int .i64 EF)).setCell ⟨w.heap.size, 1, none⟩ (.slice a1 n1 c1)).setCell ⟨w.heap.size, 2, none⟩ (.slice a2 n2 c2)).setCell ⟨w.heap.size, 3, none⟩ (.slice a3 n3 c3)).setCell ⟨w.heap.size, 4, none⟩ (.slice a4 j c4)) (some w.heap.size) := grown_trans (grown_trans (grown_trans (grown_trans grown_set grown_set) grown_set) grown_set) grown_set
          have zx := ZX.out
          refine ln_ret (s := ST) ?_ PBE.out (fun _ => ?_) (S8.bw.grown gs S8.bw.size (fun y hy => by cases hy; exact Nat.le_refl _)) h2 h3
          · rw [hST]
            exact ((((S8.r0.set 0 _).set 1 _).set 2 _).set 3 _).set 4 _
          · have q := (PA w8 hb8).out
            have o3 := (OX.out.far (below_grown hb8 none) (fun x hx => by cases hx)).far gs (fun x hx => by cases hx; omega)
            have zx3 := ZX3.out
            have oc := (O.out.below hb8).farX gs (by omega)
            have le := o3.le
            rw [SE.out, hST]
            exact ⟨rfl, ⟨X1, X2, X3, by omega, le.2.1, le.2.2, Nat.le_trans HX.out (Nat.le_trans hb8.size gs.size), ⟨o3.o1.mono (by omega), o3.b1⟩, ⟨o3.o2, o3.b2⟩, ⟨o3.o3, o3.b3⟩, oc, fun g' e' => (oc.row e').2.1⟩, rfl, rfl, rfl, rfl⟩
        have HST := hid hST
        have KR2 : ∀ wx, Below wr.heap.size wr wx → Hid (Calls Tryz.prog 34 #[.agg #[.int .i64 EF, .slice a1 n1 c1, .slice a2 n2 c2, .slice a3 n3 c3, .slice a4 j c4]] wx fun e w' => e = .returned (.bool (pb (stP ST))) ∧ Below wx.heap.size wx w') := fun wx hb => by
          have := (KR wx hb).out
          conv at this => arg 3; rw [HST.out]
          exact this
        have Rw : ∀ w8, Below wr.heap.size wr w8 → Hid (RowAt w8 w.heap.size 73 #[.int .i64 0, .slice none 0 0, .slice none 0 0, .slice none 0 0, .slice none 0 0] ∧ RowAt w8 (w.heap.size + 1) 73 #[.int .i64 EF, .slice a1 n1 c1, .slice a2 n2 c2, .slice a3 n3 c3, .slice a4 j c4]) := fun w8 hb => ⟨S.out.r0.below hb S.out.r0.lt, S.out.r1.below hb S.out.r1.lt⟩
        obtain ⟨BV, hBV⟩ : ∃ b, b = pb (stP ST) := ⟨_, rfl⟩
        rw [← hBV] at KR2 FIN
        clear hST KR hBV PA PIF PBE SE O OX S HST
        go_region_law (go_simp; go_at_call 34; refine (KR2 _ (by first | exact Below.refl _ _ | exact (Below.refl _ _).drew)).out.mono ?_; rintro e w8 ⟨rfl, hb8'⟩; have b8 : Hid (Below wr.heap.size wr w8) := (by first | exact hb8' | exact (Below.refl _ _).drew.trans hb8'); have R0 := hid (Rw w8 b8.out).out.1; have R1 := hid (Rw w8 b8.out).out.2; have y0 := R0.out.cell 0; have y1 := R0.out.cell 1; have y2 := R0.out.cell 2; have y3 := R0.out.cell 3; have y4 := R0.out.cell 4; have l0 := R1.out.cell 0; have l1 := R1.out.cell 1; have l2 := R1.out.cell 2; have l3 := R1.out.cell 3; have l4 := R1.out.cell 4; have f0 := R0.out.free 0; have f1 := (R0.out.set 0 (.int .i64 EF)).free 1; have f2 := ((R0.out.set 0 (.int .i64 EF)).set 1 (.slice a1 n1 c1)).free 2; have f3 := (((R0.out.set 0 (.int .i64 EF)).set 1 (.slice a1 n1 c1)).set 2 (.slice a2 n2 c2)).free 3; have f4 := ((((R0.out.set 0 (.int .i64 EF)).set 1 (.slice a1 n1 c1)).set 2 (.slice a2 n2 c2)).set 3 (.slice a3 n3 c3)).free 4; clear hb8'; dsimp only)
        all_goals go_wp2_with fail
        all_goals exact FIN.out w8 b8.out _ rfl rfl
end Go.Proofs.YtmjolkagkeonfaaGreatDoor
