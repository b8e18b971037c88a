import Derived.Test.YtjeahllaajpddaaIMixP
namespace Go.Proofs.Ytjeahllaajpddaa
open Go.RowKit
set_option maxRecDepth 20000 in
set_option maxHeartbeats 2000000 in
theorem iMix (key : ByteArray) (node turn : Int) (hk : key.size ≤ 1048576) (hn : node ≤ 9223372036854775807) (ht : turn ≤ 9223372036854775807) (w : World) :
    Calls Try.prog 23 #[.string key, .int .i64 node, .int .i64 turn] w fun e w' => e = .returned (.int .i64 (mixV key node turn)) ∧ Below w.heap.size w w' := by
  by_cases h0 : node < 0
  · have E : Hid (mixV key node turn = -1) := if_pos (Or.inl h0)
    have d0 : decide (node < 0) = true := by simp; omega
    go_enter Try.func23, Try.ntmps23
    go_wp2
    go_ret
    exact ⟨by rw [E.out]; rfl, Below.refl _ _⟩
  have d0 : decide (node < 0) = false := by simp; omega
  by_cases h1 : turn < 0
  · have E : Hid (mixV key node turn = -1) := if_pos (Or.inr (Or.inl h1))
    have d1 : decide (turn < 0) = true := by simp; omega
    go_enter Try.func23, Try.ntmps23
    go_wp2
    go_ret
    exact ⟨by rw [E.out]; rfl, Below.refl _ _⟩
  have d1 : decide (turn < 0) = false := by simp; omega
  by_cases h2 : 1000 < key.size
  · have E : Hid (mixV key node turn = -1) := if_pos (Or.inr (Or.inr h2))
    have d2 : decide ((1000 : Int) < ((key.size : Nat) : Int)) = true := by simp; omega
    go_enter Try.func23, Try.ntmps23
    go_wp2
    go_ret
    exact ⟨by rw [E.out]; rfl, Below.refl _ _⟩
  have d2 : decide ((1000 : Int) < ((key.size : Nat) : Int)) = false := by simp; omega
  have E : Hid (mixV key node turn = mixX (sumL (kSum key) (putNum node ++ putNum turn).data.toList)) := by
    show _ = _; rw [mixV_eq key node turn (by omega) (by omega) (by omega), bytes_append, sumL_append]
  have hs1 := putNum_size node
  have hs2 := putNum_size turn
  have K := fun w => hid (iKeySum key (by omega) w)
  have kb := kSum_bd key
  have P1 := fun w => hid (iput_all node hn w)
  have P2 := fun w => hid (iput_all turn ht w)
  obtain ⟨s1, e1⟩ : ∃ s, s = putNum node := ⟨_, rfl⟩
  obtain ⟨s2, e2⟩ : ∃ s, s = putNum turn := ⟨_, rfl⟩
  rw [← e1] at E hs1 P1
  rw [← e2] at E hs2 P2
  clear e1 e2 h0 h1
  have z1 : ¬ 9223372036854775807 < s1.size + s2.size := by omega
  obtain ⟨k1, hk1⟩ : ∃ k, k = s1 ++ s2 := ⟨_, rfl⟩
  have zk1 : k1.size ≤ 20 := by rw [hk1, ByteArray.size_append]; omega
  have q1 : s1 ++ s2 = k1 := hk1.symm
  rw [q1] at E
  clear hk1
  obtain ⟨ks, hks⟩ : ∃ x, x = kSum key := ⟨_, rfl⟩
  rw [← hks] at kb E K
  clear hks
  have S := fun w => hid (isumOn ks k1 kb.1 kb.2 (by omega) w)
  have sb := sumL_bd k1.data.toList ks kb.1 kb.2
  obtain ⟨t, htt⟩ : ∃ x, x = sumL ks k1.data.toList := ⟨_, rfl⟩
  rw [← htt] at S sb E
  clear htt
  have M := fun w => hid (iMixX t sb.1 sb.2 w)
  go_enter Try.func23, Try.ntmps23
  go_wp2_with fail
  refine (K _).out.mono ?_
  rintro e w0 ⟨rfl, rfl⟩
  go_wp2_with fail
  refine (P1 _).out.mono ?_
  rintro e w1 ⟨rfl, hb1⟩
  go_wp2_with fail
  refine (P2 _).out.mono ?_
  rintro e w2 ⟨rfl, hb2⟩
  go_wp2_with fail
  refine (S _).out.mono ?_
  rintro e w3 ⟨rfl, rfl⟩
  go_wp2_with fail
  refine (M _).out.mono ?_
  rintro e w4 ⟨rfl, rfl⟩
  go_wp2
  go_ret
  exact ⟨by rw [E.out]; rfl, hb1.trans (hb2.mono hb1.size)⟩
set_option maxRecDepth 20000 in
set_option maxHeartbeats 2000000 in
theorem iScore (key : ByteArray) (hk : key.size ≤ 1000) (x : Int) (W disk : Nat) (hW64 : W ≤ 64) (hd : disk ≤ 200) (w : World) :
    Calls Try.prog 41 #[.agg #[.int .i64 x, .int .i64 (W : Int)], .int .i64 (kSum key), .int .i64 (disk : Int)] w fun e w' => e = .returned (.int .i64 (best key disk W)) ∧ Below w.heap.size w w' := by
  have kb := kSum_bd key
  have P1 := fun w => hid (iput_all disk (by omega) w)
  have zs1 := putNum_size disk
  obtain ⟨s1, e1⟩ : ∃ s, s = putNum disk := ⟨_, rfl⟩
  have S1 := fun w => hid (isumOn (kSum key) s1 kb.1 kb.2 (by rw [e1]; omega) w)
  have sb := sumL_bd s1.data.toList (kSum key) kb.1 kb.2
  obtain ⟨t1, ht1⟩ : ∃ x, x = sumL (kSum key) s1.data.toList := ⟨_, rfl⟩
  have MX : Hid (∀ t : Nat, mixV key disk t = mixX (sumL t1 (putNum t).data.toList)) := fun t => by
    rw [mixV_eq key disk t hk (by omega) (by omega), ht1, e1]
  rw [← e1] at P1
  rw [← ht1] at S1 sb
  obtain ⟨ks, hks⟩ : ∃ x, x = kSum key := ⟨_, rfl⟩
  rw [← hks] at S1 ⊢
  clear e1 ht1 zs1 hks kb
  go_enter Try.func41, Try.ntmps41
  go_wp2_with fail
  refine (P1 _).out.mono ?_
  rintro e w1 ⟨rfl, hb1⟩
  have HB1 : Hid (Below w.heap.size w w1) := ((Below.refl w.heap.size w).alloc (Nat.le_refl _) _).trans (hb1.mono (by simp))
  have c1 : Hid (w1.cell? ⟨w.heap.size, 1, none⟩ = some (.int .i64 (W : Int))) := (hb1.cell (p := ⟨w.heap.size, 1, none⟩) (by simp)).trans (by simp)
  have l1 : Hid (w.heap.size < w1.heap.size) := by have := hb1.size; simp at this; exact this
  clear hb1
  go_wp2_with fail
  refine (S1 _).out.mono ?_
  rintro e w2 ⟨rfl, rfl⟩
  have c1' := c1.out
  go_wp2_with fail
  clear c1'
  go_loopw [15, 7] (fun q r wr => ∃ t : Nat, t ≤ W ∧ q = .int .i64 (t : Int) ∧ r = .int .i64 (best key disk t) ∧ Below w.heap.size w wr) (fun q _ _ => W - (intOf q).toNat)
  case atStart => exact ⟨0, Nat.zero_le _, rfl, rfl, HB1.out⟩
  case round =>
    obtain ⟨t, ht, rfl, rfl, hB⟩ := hrel
    have HB := hid hB
    clear hB
    by_cases hlt : t < W
    · have hlt' : (t : Int) < (W : Int) := by omega
      have P2 := hid (iput_all t (by omega) wr)
      have zs2 := putNum_size t
      obtain ⟨s2, e2⟩ : ∃ s, s = putNum t := ⟨_, rfl⟩
      have S2 := fun w => hid (isumOn t1 s2 sb.1 sb.2 (by rw [e2]; omega) w)
      have sb2 := sumL_bd s2.data.toList t1 sb.1 sb.2
      obtain ⟨t2, ht2⟩ : ∃ x, x = sumL t1 s2.data.toList := ⟨_, rfl⟩
      rw [← ht2] at S2 sb2
      have M := fun w => hid (iMixX t2 sb2.1 sb2.2 w)
      obtain ⟨m, hm⟩ : ∃ m, m = mixX t2 := ⟨_, rfl⟩
      obtain ⟨B, hBB⟩ : ∃ B, B = best key disk t := ⟨_, rfl⟩
      have SU : Hid (best key disk (t + 1) = if B < m then m else B) := by
        show _ = _
        have : mixV key disk t = m := by rw [MX.out, hm, ht2, e2]
        show (if best key disk t < mixV key disk (t : Int) then mixV key disk (t : Int) else best key disk t) = _
        rw [this, ← hBB]
      rw [← hm] at M
      rw [← e2] at P2
      rw [← hBB]
      clear hm hBB e2 ht2 zs2
      go_wp2_with fail
      refine P2.out.mono ?_
      rintro e w2 ⟨rfl, hb2⟩
      have B2 : Hid (Below w.heap.size w w2) := HB.out.trans (hb2.mono HB.out.size)
      clear P2 hb2
      go_wp2_with fail
      refine (S2 _).out.mono ?_
      rintro e w3 ⟨rfl, rfl⟩
      go_wp2_with fail
      refine (M _).out.mono ?_
      rintro e w4 ⟨rfl, rfl⟩
      go_wp2
      go_roundw
      case rel => exact ⟨t + 1, hlt, by go_num, by rw [SU.out], B2.out⟩
      case measure => simp [intOf]; omega
    · have hlt' : ¬ (t : Int) < (W : Int) := by omega
      obtain rfl : t = W := by omega
      go_wp2
      go_ret
      exact ⟨rfl, HB.out⟩
set_option maxRecDepth 20000 in
set_option maxHeartbeats 2000000 in
theorem iNodes (a : Option Addr) (n cap : Nat) (x y : Nat → Int) (hl : n ≤ 1048576) (w : World) (h : Prs w a n cap x y) :
    Calls Try.prog 36 #[.slice a n cap] w fun e w' => e = .returned (.int .i64 (ndF n x y)) ∧ Below w.heap.size w w' := by
  by_cases h1 : n < 1
  · have E : Hid (ndF n x y = 1) := if_neg (fun q => by have := q.1; omega)
    have d0 : decide ((n : Int) < 1) = true := by simp; omega
    go_enter Try.func36, Try.ntmps36
    go_wp2
    go_ret
    exact ⟨by rw [E.out]; rfl, Below.refl _ _⟩
  have d0 : decide ((n : Int) < 1) = false := by simp; omega
  by_cases h2 : 200 < n
  · have E : Hid (ndF n x y = 1) := if_neg (fun q => by have := q.2.1; omega)
    have d1 : decide ((200 : Int) < (n : Int)) = true := by simp; omega
    go_enter Try.func36, Try.ntmps36
    go_wp2
    go_ret
    exact ⟨by rw [E.out]; rfl, Below.refl _ _⟩
  have d1 : decide ((200 : Int) < (n : Int)) = false := by simp; omega
  rcases h.2 with h00 | ⟨b, off, rfl, hbl, hc⟩
  · omega
  have HC := hid hc
  clear h hc
  go_enter Try.func36, Try.ntmps36
  go_wp2_with fail
  go_loopw [15] (fun q wr => ∃ k : Nat, k ≤ n ∧ q = .int .i64 k ∧ (∀ i, i < k → 0 ≤ x i ∧ x i ≤ 200 ∧ 0 ≤ y i ∧ y i ≤ 64) ∧ Below w.heap.size w wr) (fun q _ => n - (intOf q).toNat)
  case atStart => exact ⟨0, Nat.zero_le _, rfl, fun i hi => absurd hi (by omega), Below.refl _ _⟩
  case round =>
    obtain ⟨k, hk, rfl, hok, hB⟩ := hrel
    have HOK := hid hok
    have HB := hid hB
    clear hok hB
    by_cases hlt : k < n
    · have hlt' : (k : Int) < (n : Int) := by omega
      have k0 : (0 : Int) ≤ (k : Int) := by omega
      obtain ⟨c0, c1⟩ := HC.out k hlt
      replace c0 := (HB.out.cell (p := ⟨b, off + k * 2, none⟩) hbl).trans c0
      replace c1 := (HB.out.cell (p := ⟨b, off + k * 2 + 1, none⟩) hbl).trans c1
      have B2 : Hid (∀ bl, Below w.heap.size w (wr.alloc bl)) := fun bl => HB.out.alloc HB.out.size _
      obtain ⟨X, hX⟩ : ∃ X, X = x k := ⟨_, rfl⟩
      obtain ⟨Y, hY⟩ : ∃ Y, Y = y k := ⟨_, rfl⟩
      rw [← hX] at c0
      rw [← hY] at c1
      have bad : ¬ (0 ≤ X ∧ X ≤ 200 ∧ 0 ≤ Y ∧ Y ≤ 64) → ndF n x y = 1 := fun q => if_neg (fun r => q (by rw [hX, hY]; exact r.2.2 k hlt))
      have BAD := hid bad
      have HX := hid hX
      have HY := hid hY
      clear bad hX hY
      by_cases g0 : X < 0
      · have E : Hid (ndF n x y = 1) := BAD.out (by omega)
        have q0 : decide (X < 0) = true := by simp; omega
        go_wp2
        go_ret
        exact ⟨by rw [E.out]; rfl, B2.out _⟩
      have q0 : decide (X < 0) = false := by simp; omega
      by_cases g1 : 200 < X
      · have E : Hid (ndF n x y = 1) := BAD.out (by omega)
        have q1 : decide (200 < X) = true := by simp; omega
        go_wp2
        go_ret
        exact ⟨by rw [E.out]; rfl, B2.out _⟩
      have q1 : decide (200 < X) = false := by simp; omega
      by_cases g2 : Y < 0
      · have E : Hid (ndF n x y = 1) := BAD.out (by omega)
        have q2 : decide (Y < 0) = true := by simp; omega
        go_wp2
        go_ret
        exact ⟨by rw [E.out]; rfl, B2.out _⟩
      have q2 : decide (Y < 0) = false := by simp; omega
      by_cases g3 : 64 < Y
      · have E : Hid (ndF n x y = 1) := BAD.out (by omega)
        have q3 : decide (64 < Y) = true := by simp; omega
        go_wp2
        go_ret
        exact ⟨by rw [E.out]; rfl, B2.out _⟩
      have q3 : decide (64 < Y) = false := by simp; omega
      have N1 : Hid (∀ i, i < k + 1 → 0 ≤ x i ∧ x i ≤ 200 ∧ 0 ≤ y i ∧ y i ≤ 64) := fun i hi => by
        by_cases e : i = k
        · rw [e, ← HX.out, ← HY.out]; omega
        · exact HOK.out i (by omega)
      go_wp2
      go_roundw
      case rel => exact ⟨k + 1, by omega, by go_num, N1.out, B2.out _⟩
      case measure => simp [intOf]; omega
    · have hlt' : ¬ (k : Int) < (n : Int) := by omega
      have hke : k = n := by omega
      have E : Hid (ndF n x y = 0) := if_pos ⟨by omega, by omega, by rw [← hke]; exact HOK.out⟩
      go_wp2
      go_ret
      exact ⟨by rw [E.out]; rfl, HB.out⟩
set_option maxRecDepth 20000 in
set_option maxHeartbeats 2000000 in
theorem iDisk (a : Option Addr) (n cap : Nat) (x y : Nat → Int) (hl : n ≤ 1048576) (key : ByteArray) (hk : key.size ≤ 1048576) (disk : Int) (w : World) (h : Prs w a n cap x y) :
    Calls Try.prog 18 #[.slice a n cap, .string key, .int .i64 disk] w fun e w' => e = .returned (.int .i64 (scoreV key n x y disk)) ∧ Below w.heap.size w w' := by
  have NF := hid (iNodes a n cap x y hl w h)
  have HH := hid h
  clear h
  by_cases hok : NdOk n x y
  · have F : Hid (ndF n x y = 0) := if_pos hok
    rw [F.out] at NF
    by_cases g0 : disk < 0
    · have E : Hid (scoreV key n x y disk = -1) := if_neg (by omega)
      have q0 : decide (disk < 0) = true := by simp; omega
      go_enter Try.func18, Try.ntmps18
      go_wp2_with fail
      refine NF.out.mono ?_
      rintro e w1 ⟨rfl, hb1⟩
      go_wp2
      go_ret
      exact ⟨by rw [E.out]; rfl, hb1⟩
    have q0 : decide (disk < 0) = false := by simp; omega
    by_cases g1 : (n : Int) ≤ disk
    · have E : Hid (scoreV key n x y disk = -1) := if_neg (by omega)
      have q1 : decide ((n : Int) ≤ disk) = true := by simp; omega
      go_enter Try.func18, Try.ntmps18
      go_wp2_with fail
      refine NF.out.mono ?_
      rintro e w1 ⟨rfl, hb1⟩
      go_wp2
      go_ret
      exact ⟨by rw [E.out]; rfl, hb1⟩
    have q1 : decide ((n : Int) ≤ disk) = false := by simp; omega
    by_cases g2 : 1000 < key.size
    · have E : Hid (scoreV key n x y disk = -1) := if_neg (by omega)
      have q2 : decide ((1000 : Int) < ((key.size : Nat) : Int)) = true := by simp; omega
      go_enter Try.func18, Try.ntmps18
      go_wp2_with fail
      refine NF.out.mono ?_
      rintro e w1 ⟨rfl, hb1⟩
      go_wp2
      go_ret
      exact ⟨by rw [E.out]; rfl, hb1⟩
    have q2 : decide ((1000 : Int) < ((key.size : Nat) : Int)) = false := by simp; omega
    obtain ⟨d, rfl⟩ := Int.eq_ofNat_of_zero_le (show 0 ≤ disk by omega)
    have hdn : d < n := by omega
    have hn200 : n ≤ 200 := hok.2.1
    obtain ⟨W, hW⟩ := Int.eq_ofNat_of_zero_le (hok.2.2 d hdn).2.2.1
    have hW64 : W ≤ 64 := by have := (hok.2.2 d hdn).2.2.2; omega
    have E : Hid (scoreV key n x y d = best key d W) := by
      show _ = _
      unfold scoreV
      rw [if_pos ⟨hok, by omega, by omega, by omega⟩, Int.toNat_natCast, hW, Int.toNat_natCast]
    rcases HH.out.2 with h00 | ⟨b, off, rfl, hbl, hc⟩
    · omega
    have HC := hid hc
    obtain ⟨X, hX⟩ : ∃ X, X = x d := ⟨_, rfl⟩
    have K := fun w => hid (iKeySum key (by omega) w)
    have SC := fun w => hid (iScore key (by omega) X W d hW64 (by omega) w)
    obtain ⟨ks, hks⟩ : ∃ x, x = kSum key := ⟨_, rfl⟩
    rw [← hks] at K SC
    clear hks hok
    have d0 : (0 : Int) ≤ (d : Int) := by omega
    have dn : (d : Int) < (n : Int) := by omega
    go_enter Try.func18, Try.ntmps18
    go_wp2_with fail
    refine NF.out.mono ?_
    rintro e w1 ⟨rfl, hb1⟩
    have c0 := (hb1.cell (p := ⟨b, off + d * 2, none⟩) hbl).trans (HC.out d hdn).1
    have c1 := (hb1.cell (p := ⟨b, off + d * 2 + 1, none⟩) hbl).trans (HC.out d hdn).2
    rw [← hX] at c0
    rw [hW] at c1
    have HB := hid hb1
    clear hX hb1 hW
    go_wp2_with fail
    go_region_with ((first | (go_at_call 42; refine (K _).out.mono ?_; rintro e w2 ⟨rfl, rfl⟩) | (go_at_call 41; refine (SC _).out.mono ?_; rintro e w3 ⟨rfl, hb3⟩)))
    all_goals go_wp2
    all_goals go_ret
    all_goals exact ⟨by rw [E.out]; rfl, HB.out.drew.trans (hb3.mono HB.out.drew.size)⟩
  · have F : Hid (ndF n x y = 1) := if_neg hok
    rw [F.out] at NF
    have E : Hid (scoreV key n x y disk = -1) := if_neg (fun q => hok q.1)
    go_enter Try.func18, Try.ntmps18
    go_wp2_with fail
    refine NF.out.mono ?_
    rintro e w1 ⟨rfl, hb1⟩
    go_wp2
    go_ret
    exact ⟨by rw [E.out]; rfl, hb1⟩
end Go.Proofs.Ytjeahllaajpddaa
