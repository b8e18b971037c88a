import Derived.Test.YteimhnklebppkaaUnHex
namespace Go.Proofs.Yteimhnklebppkaa
open Go.RowKit
set_option maxRecDepth 20000 in
set_option maxHeartbeats 1000000 in
theorem digit_yes (c : Nat) (s : ByteArray) (k d : Nat) (w : World) (hc : CurAt w c s k) (hs : s.size ≤ 1048576) (hk : k < s.size) (hd : dig s[k].toNat = some d) :
    Calls Try.prog 29 #[.pointer (some ⟨c, 0, none⟩)] w fun e w' => e = .returned (.tuple #[.int .u8 d, .bool true]) ∧ CurAt w' c s ((k + 1 : Nat) : Int) ∧ w.grownBy w' (some c) := by
  have hb := byte_yes c s k w hc hs hk
  have c0 : s[k].toNat < 256 := s[k].toNat_lt
  obtain ⟨b, hb0⟩ : ∃ b, b = s[k].toNat := ⟨_, rfl⟩
  rw [← hb0] at hb c0 hd
  have HC := hid hb
  clear hb hb0 hc
  by_cases h1 : 48 ≤ b ∧ b ≤ 57
  · have e1 : (d : Int) = (b : Int) - 48 := by unfold dig at hd; rw [if_pos h1] at hd; have := Option.some.inj hd; omega
    rw [e1]
    clear hd e1
    have a1 : decide ((48 : Int) ≤ (b : Int)) = true := by simp; omega
    have a2 : decide ((b : Int) ≤ 57) = true := by simp; omega
    go_enter Try.func29, Try.ntmps29
    go_wp2_with fail
    refine HC.out.mono ?_
    rintro e w1 ⟨rfl, hc1, hg1⟩
    go_wp2
    go_ret2
    exact ⟨rfl, hc1, hg1⟩
  · by_cases h2 : 97 ≤ b ∧ b ≤ 102
    · have e1 : (d : Int) = (b : Int) - 97 + 10 := by unfold dig at hd; rw [if_neg h1, if_pos h2] at hd; have := Option.some.inj hd; omega
      rw [e1]
      clear hd e1
      have a1 : decide ((48 : Int) ≤ (b : Int)) = true := by simp; omega
      have a2 : decide ((b : Int) ≤ 57) = false := by simp; omega
      have a3 : decide ((97 : Int) ≤ (b : Int)) = true := by simp; omega
      have a4 : decide ((b : Int) ≤ 102) = true := by simp; omega
      go_enter Try.func29, Try.ntmps29
      go_wp2_with fail
      refine HC.out.mono ?_
      rintro e w1 ⟨rfl, hc1, hg1⟩
      go_wp2
      go_ret2
      exact ⟨rfl, hc1, hg1⟩
    · unfold dig at hd; rw [if_neg h1, if_neg h2] at hd; cases hd
set_option maxRecDepth 20000 in
set_option maxHeartbeats 1000000 in
theorem digit_no (c : Nat) (s : ByteArray) (k : Nat) (w : World) (hc : CurAt w c s k) (hs : s.size ≤ 1048576) (hk : k < s.size) (hd : dig s[k].toNat = none) :
    Calls Try.prog 29 #[.pointer (some ⟨c, 0, none⟩)] w fun e w' => e = .returned (.tuple #[.int .u8 0, .bool false]) ∧ w.grownBy w' (some c) := by
  have hb := byte_yes c s k w hc hs hk
  have c0 : s[k].toNat < 256 := s[k].toNat_lt
  obtain ⟨b, hb0⟩ : ∃ b, b = s[k].toNat := ⟨_, rfl⟩
  rw [← hb0] at hb c0 hd
  have HC := hid hb
  clear hb hb0 hc
  have h1 : ¬ (48 ≤ b ∧ b ≤ 57) := by intro h; unfold dig at hd; rw [if_pos h] at hd; cases hd
  have h2 : ¬ (97 ≤ b ∧ b ≤ 102) := by intro h; unfold dig at hd; rw [if_neg h1, if_pos h] at hd; cases hd
  clear hd
  rcases (by omega : b < 48 ∨ (57 < b ∧ b < 97) ∨ 102 < b) with h | ⟨h, h'⟩ | h
  · have a1 : decide ((48 : Int) ≤ (b : Int)) = false := by simp; omega
    have a3 : decide ((97 : Int) ≤ (b : Int)) = false := by simp; omega
    go_enter Try.func29, Try.ntmps29
    go_wp2_with fail
    refine HC.out.mono ?_
    rintro e w1 ⟨rfl, hc1, hg1⟩
    go_wp2
    go_ret2
    exact ⟨rfl, hg1⟩
  · have a1 : decide ((48 : Int) ≤ (b : Int)) = true := by simp; omega
    have a2 : decide ((b : Int) ≤ 57) = false := by simp; omega
    have a3 : decide ((97 : Int) ≤ (b : Int)) = false := by simp; omega
    go_enter Try.func29, Try.ntmps29
    go_wp2_with fail
    refine HC.out.mono ?_
    rintro e w1 ⟨rfl, hc1, hg1⟩
    go_wp2
    go_ret2
    exact ⟨rfl, hg1⟩
  · have a1 : decide ((48 : Int) ≤ (b : Int)) = true := by simp; omega
    have a2 : decide ((b : Int) ≤ 57) = false := by simp; omega
    have a3 : decide ((97 : Int) ≤ (b : Int)) = true := by simp; omega
    have a4 : decide ((b : Int) ≤ 102) = false := by simp; omega
    go_enter Try.func29, Try.ntmps29
    go_wp2_with fail
    refine HC.out.mono ?_
    rintro e w1 ⟨rfl, hc1, hg1⟩
    go_wp2
    go_ret2
    exact ⟨rfl, hg1⟩
set_option maxHeartbeats 400000 in
theorem digit_end (c : Nat) (s : ByteArray) (p : Int) (w : World) (hc : CurAt w c s p) (hs : s.size ≤ 1048576) (hk : leftI s p = 0) :
    Calls Try.prog 29 #[.pointer (some ⟨c, 0, none⟩)] w fun e w' => e = .returned (.tuple #[.int .u8 0, .bool false]) ∧ w.grownBy w' (some c) := by
  have HK := hid hk
  clear hk
  go_enter Try.func29, Try.ntmps29
  go_wp2_with fail
  refine (byte_no c s p _ hc hs HK.out).mono ?_
  rintro e w1 ⟨rfl, rfl⟩
  go_wp2
  go_ret2
  exact ⟨rfl, World.grownBy.refl _ _⟩
theorem or4 (a b : Nat) (ha : a < 16) (hb : b < 16) : bits .or .u8 ((a : Int) * 16) (b : Int) = ((16 * a + b : Nat) : Int) := by
  have e : (a : Int) * 16 = ((a * 16 : Nat) : Int) := by omega
  rw [e, u8_or_nat _ _ (by omega) (by omega), nat_join 4 _ _ (by omega) (by omega)]; omega
set_option maxRecDepth 20000 in
set_option maxHeartbeats 1000000 in
theorem hexByte_yes (c : Nat) (s : ByteArray) (k a b : Nat) (w : World) (hc : CurAt w c s k) (hs : s.size ≤ 1048576) (hk : k + 1 < s.size) (ha : dig s[k].toNat = some a) (hb : dig s[k + 1].toNat = some b) :
    Calls Try.prog 24 #[.pointer (some ⟨c, 0, none⟩)] w fun e w' => e = .returned (.tuple #[.int .u8 (16 * a + b : Nat), .bool true]) ∧ CurAt w' c s ((k + 2 : Nat) : Int) ∧ w.grownBy w' (some c) := by
  have la := dig_lt _ a ha
  have lb := dig_lt _ b hb
  have HA := hid ha
  have HB := hid hb
  have HO := hid (or4 a b la lb)
  clear ha hb
  go_enter Try.func24, Try.ntmps24
  go_wp2_with fail
  refine (digit_yes c s k a _ hc hs (by omega) HA.out).mono ?_
  rintro e w1 ⟨rfl, hc1, hg1⟩
  go_wp2_with fail
  refine (digit_yes c s (k + 1) b _ hc1 hs hk HB.out).mono ?_
  rintro e w2 ⟨rfl, hc2, hg2⟩
  go_wp2
  go_ret2
  exact ⟨ret2_int HO.out, hc2, grown_trans hg1 hg2⟩
set_option maxRecDepth 20000 in
set_option maxHeartbeats 1000000 in
theorem hexByte_no (c : Nat) (s : ByteArray) (k : Nat) (w : World) (hc : CurAt w c s k) (hs : s.size ≤ 1048576) (hk : k < s.size) (hno : dig s[k].toNat = none ∨ k + 1 = s.size ∨ ∃ h : k + 1 < s.size, dig s[k + 1].toNat = none) :
    Calls Try.prog 24 #[.pointer (some ⟨c, 0, none⟩)] w fun e w' => (∃ x, e = .returned (.tuple #[.int .u8 x, .bool false])) ∧ w.grownBy w' (some c) := by
  have HN := hid hno
  clear hno
  cases hd : dig s[k].toNat with
  | none =>
    have HD := hid hd
    clear hd
    go_enter Try.func24, Try.ntmps24
    go_wp2_with fail
    refine (digit_no c s k _ hc hs hk HD.out).mono ?_
    rintro e w1 ⟨rfl, hg1⟩
    go_wp2
    go_ret2
    exact ⟨⟨_, rfl⟩, hg1⟩
  | some a =>
    have la := dig_lt _ a hd
    have HD := hid hd
    clear hd
    by_cases he : k + 1 = s.size
    · have HE := hid he
      clear he
      go_enter Try.func24, Try.ntmps24
      go_wp2_with fail
      refine (digit_yes c s k a _ hc hs hk HD.out).mono ?_
      rintro e w1 ⟨rfl, hc1, hg1⟩
      go_wp2_with fail
      refine (digit_end c s _ _ hc1 hs (by have := HE.out; simp [leftI]; omega)).mono ?_
      rintro e w2 ⟨rfl, hg2⟩
      go_wp2
      go_ret2
      exact ⟨⟨_, rfl⟩, grown_trans hg1 hg2⟩
    · have h1 : k + 1 < s.size := by omega
      have HD2 : Hid (dig s[k + 1].toNat = none) := by
        rcases HN.out with h | h | ⟨_, h⟩
        · have := HD.out; rw [h] at this; cases this
        · exact absurd h he
        · exact h
      clear he
      go_enter Try.func24, Try.ntmps24
      go_wp2_with fail
      refine (digit_yes c s k a _ hc hs hk HD.out).mono ?_
      rintro e w1 ⟨rfl, hc1, hg1⟩
      go_wp2_with fail
      refine (digit_no c s (k + 1) _ hc1 hs h1 HD2.out).mono ?_
      rintro e w2 ⟨rfl, hg2⟩
      go_wp2
      go_ret2
      exact ⟨⟨_, rfl⟩, grown_trans hg1 hg2⟩

set_option maxRecDepth 20000 in
set_option maxHeartbeats 400000 in
theorem iunhex_no (s : ByteArray) (hs : s.size ≤ 1048576) (h : 100000 < s.size) (w : World) :
    Calls Try.prog 11 #[.string s] w fun e w' => e = .returned (textV (unhex s)) ∧ Below w.heap.size w w' := by
  have HN := hid (unhex_no s (Or.inr h))
  go_enter Try.func11, Try.ntmps11
  go_wp2
  refine bodyPost_ret (v := .agg #[.bool false, .string ⟨#[]⟩, .int .i64 0]) (by simp [results, Try.results11, go_sem]) rfl ⟨by rw [HN.out]; rfl, ?_⟩
  exact (Below.refl _ _).alloc (Nat.le_refl _) _

theorem CurAt.far {w w' : World} {c : Nat} {s : ByteArray} {p : Int} {r : Option Nat} (h : CurAt w c s p) (hg : w.grownBy w' r) (hne : some c ≠ r) : CurAt w' c s p := (hg.block c h.lt hne).trans h

theorem leftI_in (s : ByteArray) (k : Nat) (h : k ≤ s.size) : leftI s k = s.size - k := by unfold leftI; rw [if_neg (by omega)]
def sliceLen : Value → Nat
  | .slice _ n _ => n
  | _ => 0
theorem OwnNums.len {w : World} {base : Nat} {e : TypeId} {k : IntKind} {v : Value} {xs : List Int} (h : OwnNums w base e k v xs) : sliceLen v = xs.length := by
  rcases h.2 with ⟨rfl, h0⟩ | ⟨g, cap, cur, rfl, _⟩
  · rw [h0]; rfl
  · rfl

set_option maxRecDepth 20000 in
set_option maxHeartbeats 2000000 in
theorem iunhex_yes (s : ByteArray) (hs : s.size ≤ 100000) (w : World) :
    Calls Try.prog 11 #[.string s] w fun e w' => e = .returned (textV (unhex s)) ∧ Below w.heap.size w w' := by
  have HU : Hid (unhex s = (unhexL s.data.toList).map fun xs => (strOfNums xs, (s.size : Int))) := by show _ = _; unfold unhex; rw [if_neg (by omega)]
  obtain ⟨W0, hW0⟩ : ∃ W0, W0 = (w.alloc (.cells #[.bool false, .string ⟨#[]⟩, .int .i64 0] 31)).alloc (.cells #[.string s, .int .i64 0] 49) := ⟨_, rfl⟩
  have HW := hid hW0
  have hbw : Below w.heap.size w W0 := by rw [hW0]; exact ((Below.refl _ _).alloc (Nat.le_refl _) _).alloc (by simp) _
  have hcw : CurAt W0 (w.heap.size + 1) s 0 := by
    have := CurAt.made (w.alloc (.cells #[.bool false, .string ⟨#[]⟩, .int .i64 0] 31)) s 0
    rw [World.size_alloc] at this; rw [hW0]; exact this
  have hBw : Blk W0 w.heap.size #[.bool false, .string ⟨#[]⟩, .int .i64 0] 31 := by
    rw [hW0]; exact (Blk.made w _ _).past (by simp) _
  have hsw : W0.heap.size = w.heap.size + 2 := by rw [hW0]; simp
  have HSW := hid hsw
  clear hsw hW0
  go_enter Try.func11, Try.ntmps11
  go_wp2_with (first | (at_make; rw [← HW.out]; refine make_nums W0 W0 rfl (.const (.int .i64 0)) (.tmp 16) 22 rfl 5 .u8 1 Try.underlying22 Try.info5 (by decide) .i64 .i64 ((s.size : Int) / 2) (s.size / 2) rfl rfl (by omega) (by omega) (Below.refl _ _) ?_))
  intro w0 hown0 hbel0
  have hc1 : CurAt w0 (w.heap.size + 1) s 0 := (hbel0.block _ (by rw [HSW.out]; omega)).trans hcw
  have hB1 : Blk w0 w.heap.size #[.bool false, .string ⟨#[]⟩, .int .i64 0] 31 := (hbel0.block _ (by rw [HSW.out]; omega)).trans hBw
  have HB1 := hid (hbw.trans (hbel0.mono (by rw [HSW.out]; omega)))
  have HZ1 := hid hbel0.size
  clear hcw hBw hbw hbel0
  go_wp2_with fail
  go_loopw [4] (fun v wr => ∃ (k : Nat) (xs : List Int), 2 * k ≤ s.size ∧ xs.length = k ∧ unhexL (s.data.toList.take (2 * k)) = some xs ∧ OwnNums wr W0.heap.size 5 .u8 v xs ∧ CurAt wr (w.heap.size + 1) s ((2 * k : Nat) : Int) ∧ Blk wr w.heap.size #[.bool false, .string ⟨#[]⟩, .int .i64 0] 31 ∧ Below w.heap.size w wr ∧ W0.heap.size ≤ wr.heap.size)
    (fun v _ => s.size - sliceLen v)
  case atStart => exact ⟨0, [], by omega, rfl, rfl, hown0, hc1, hB1, HB1.out, HZ1.out⟩
  case round =>
    obtain ⟨k, xs, hk, hxl, hux, hown, hcur, hB, hbel, hsz⟩ := hrel
    have HX := hid hux
    have HXL := hid hxl
    have hxn : xs.length ≤ 50000 := by omega
    have HBel := hid hbel
    have HSZ := hid hsz
    clear hux hxl hbel hsz hown0 hc1 hB1
    by_cases hlt : 2 * k < s.size
    · have d0 : decide (0 < leftI s (2 * (k : Int))) = true := by rw [show (2 * (k : Int)) = ((2 * k : Nat) : Int) by omega, leftI_in s (2 * k) (by omega)]; simp; omega
      by_cases hok : ∃ (h1 : 2 * k + 1 < s.size) (a b : Nat), dig s[2 * k].toNat = some a ∧ dig s[2 * k + 1].toNat = some b
      · obtain ⟨h1, a, b, ha, hb⟩ := hok
        have HA := hid ha
        have HBb := hid hb
        have la := dig_lt _ a ha
        have lb := dig_lt _ b hb
        have HS := hid ((unhex_two s (2 * k) xs HX.out h1).1 a b ha hb)
        clear ha hb
        go_wp2_with fail
        refine (left_all _ s _ _ hcur (by omega)).mono ?_
        rintro e w1 ⟨rfl, rfl⟩
        go_wp2_with fail
        refine (hexByte_yes _ s (2 * k) a b _ hcur (by omega) h1 HA.out HBb.out).mono ?_
        rintro e w2 ⟨rfl, hc2, hg2⟩
        have hown2 := hown.kept hg2 (by rw [HSW.out]; omega)
        have hB2 := hB.far hg2 (Nat.lt_of_lt_of_le (by rw [HSW.out]; omega) HSZ.out) (by simp)
        have HB2 := hid (HBel.out.grown hg2 HBel.out.size (by intro j hj; cases hj; omega))
        have HZ2 : Hid (W0.heap.size ≤ w2.heap.size) := Nat.le_trans HSZ.out hg2.size
        clear hg2 hB hcur hown
        go_wp2_with (first | (at_builtin; refine append_num2 W0.heap.size _ rfl (.tmp 29) (.tmp 31) 22 rfl 5 .u8 1 Try.underlying22 Try.info5 (by decide) _ xs _ rfl hown2 HZ2.out rfl ?_ ?_; omega))
        intro v' w3 hown3 hg3
        have hc3 := hc2.far hg3 (hown2.ne (by rw [HSW.out]; omega))
        have hB3 := hB2.far hg3 (Nat.lt_of_lt_of_le (by rw [HSW.out]; omega) HZ2.out) (hown2.ne (by rw [HSW.out]; omega))
        have HB3 := hid (HB2.out.grown hg3 HB2.out.size (by intro j hj; have := (World.ownsRow.lt hown2 j hj).1; rw [HSW.out] at this; omega))
        have HZ3 : Hid (W0.heap.size ≤ w3.heap.size) := Nat.le_trans HZ2.out hg3.size
        have HL := hid hown2.len
        have HL3 := hid hown3.len
        clear hg3 hown2 hc2 hB2
        go_wp2
        go_roundw
        case rel => exact ⟨k + 1, xs ++ [((16 * a + b : Nat) : Int)], by omega, by simp [HXL.out], HS.out, by simpa using hown3, hc3, hB3, HB3.out, HZ3.out⟩
        case measure =>
          have e1 := HL.out
          have e2 := HL3.out
          have e3 := HXL.out
          simp only [List.length_append, List.length_singleton] at e2
          simp
          omega
      · have HNO : Hid (dig s[2 * k].toNat = none ∨ 2 * k + 1 = s.size ∨ ∃ h : 2 * k + 1 < s.size, dig s[2 * k + 1].toNat = none) := by
          cases h1 : dig s[2 * k].toNat with
          | none => exact Or.inl rfl
          | some a =>
            right
            by_cases h2 : 2 * k + 1 = s.size
            · exact Or.inl h2
            · right
              have h3 : 2 * k + 1 < s.size := by omega
              refine ⟨h3, ?_⟩
              cases h4 : dig s[2 * k + 1].toNat with
              | none => rfl
              | some b => exact absurd ⟨h3, a, b, h1, h4⟩ hok
        have HE : Hid (unhex s = none) := by
          show _ = _
          rw [HU.out]
          have : unhexL s.data.toList = none := by
            rcases HNO.out with h | h | ⟨h3, h⟩
            · by_cases h2 : 2 * k + 1 = s.size
              · exact unhex_odd s (2 * k) xs HX.out h2
              · exact (unhex_two s (2 * k) xs HX.out (by omega)).2 (Or.inl h)
            · exact unhex_odd s (2 * k) xs HX.out h
            · exact (unhex_two s (2 * k) xs HX.out h3).2 (Or.inr h)
          rw [this]; rfl
        clear hok
        go_wp2_with fail
        refine (left_all _ s _ _ hcur (by omega)).mono ?_
        rintro e w1 ⟨rfl, rfl⟩
        go_wp2_with fail
        refine (hexByte_no _ s (2 * k) _ hcur (by omega) hlt HNO.out).mono ?_
        rintro e w2 ⟨⟨x, rfl⟩, hg2⟩
        have hB2 := hB.far hg2 (Nat.lt_of_lt_of_le (by rw [HSW.out]; omega) HSZ.out) (by simp)
        have HB2 := hid (HBel.out.grown hg2 HBel.out.size (by intro j hj; cases hj; omega))
        have q0 := hB2.cell 0 _ rfl
        have q1 := hB2.cell 1 _ rfl
        have q2 := hB2.cell 2 _ rfl
        have f0 := hB2.free 0
        have f1 := hB2.free 1
        have f2 := hB2.free 2
        clear hg2 hB hcur hown hB2
        go_wp2
        refine bodyPost_ret (v := .agg #[.bool false, .string ⟨#[]⟩, .int .i64 0]) (by simp [results, Try.results11, go_sem, q0, q1, q2]) rfl ⟨by rw [HE.out]; rfl, ?_⟩
        exact ((HB2.out.setCell (Nat.le_refl _) _).setCell (Nat.le_refl _) _).setCell (Nat.le_refl _) _
    · have HE : Hid (unhex s = some (strOfNums xs, (s.size : Int))) := by
        show _ = _
        have := HX.out
        rw [List.take_of_length_le (by simp; omega)] at this
        rw [HU.out, this]; rfl
      have h2k : 2 * k = s.size := by omega
      rw [h2k] at hcur
      have hcv := conv_owned wr.drew 22 5 9 Try.underlying22 Try.underlying5 Try.underlying9 hown.drew
      have p1 := hcur.place
      have q0 := hB.cell 0 _ rfl
      have q1 := hB.cell 1 _ rfl
      have q2 := hB.cell 2 _ rfl
      have f0 := hB.free 0
      have f1 := hB.free 1
      have f2 := hB.free 2
      have d1 : decide (0 < leftI s (s.size : Int)) = false := by simp [leftI]
      clear hown hB h2k
      go_wp2_with fail
      refine (left_all _ s _ _ hcur (by omega)).mono ?_
      rintro e w1 ⟨rfl, rfl⟩
      go_wp2_with fail
      go_region
      all_goals go_wp2
      refine bodyPost_ret (v := .agg #[.bool true, .string (strOfNums xs), .int .i64 s.size]) (by simp [results, Try.results11, go_sem, q0, q1, q2]) rfl ⟨by rw [HE.out]; rfl, ?_⟩
      exact (((HBel.out.setCell (Nat.le_refl _) _).setCell (Nat.le_refl _) _).setCell (Nat.le_refl _) _).drew
end Go.Proofs.Yteimhnklebppkaa
