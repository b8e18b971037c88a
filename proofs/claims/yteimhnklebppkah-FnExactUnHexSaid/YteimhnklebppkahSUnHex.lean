import Derived.Test.YteimhnklebppkahUnHex
namespace Go.Proofs.Yteimhnklebppkah
open Go.RowKit
theorem unhex_no (s : ByteArray) (h : s.size % 2 ≠ 0 ∨ 100000 < s.size) : unhex s = none := by
  unfold unhex
  split
  · rfl
  · cases hu : unhexL s.data.toList with
    | none => rfl
    | some xs => have := unhex_len _ xs hu; simp at this; omega

set_option maxRecDepth 20000 in
set_option maxHeartbeats 1000000 in
theorem sunhex_no (s : ByteArray) (hs : s.size ≤ 1048576) (h : s.size % 2 ≠ 0 ∨ 100000 < s.size) (w : World) :
    Calls Try.prog 19 #[.string s] w fun e w' => e = .returned (textV (unhex s)) ∧ Below w.heap.size w w' := by
  have HN := hid (unhex_no s h)
  by_cases h0 : s.size % 2 ≠ 0
  · have d0 : ((s.size : Int) % 2 != 0) = true := by simp; omega
    go_enter Try.func19, Try.ntmps19
    go_wp2
    refine bodyPost_ret (v := .agg #[.bool false, .string ⟨#[]⟩, .int .i64 0]) (by simp [results, Try.results19, go_sem]) rfl ⟨by rw [HN.out]; rfl, ?_⟩
    exact (Below.refl _ _).alloc (Nat.le_refl _) _
  · have d0 : ((s.size : Int) % 2 != 0) = false := by simp; omega
    have d1 : decide (100000 < (s.size : Int)) = true := by simp; omega
    go_enter Try.func19, Try.ntmps19
    go_wp2
    refine bodyPost_ret (v := .agg #[.bool false, .string ⟨#[]⟩, .int .i64 0]) (by simp [results, Try.results19, go_sem]) rfl ⟨by rw [HN.out]; rfl, ?_⟩
    exact (Below.refl _ _).alloc (Nat.le_refl _) _

set_option maxRecDepth 20000 in
set_option maxHeartbeats 2000000 in
theorem sunhex_yes (s : ByteArray) (h2 : s.size % 2 = 0) (hs : s.size ≤ 100000) (w : World) :
    Calls Try.prog 19 #[.string s] w fun e w' => e = .returned (textV (unhex s)) ∧ Below w.heap.size w w' := by
  have HU : Hid (unhex s = (unhexL s.data.toList).map fun xs => (strOfNums xs, (s.size : Int))) := by show _ = _; unfold unhex; rw [if_neg (by omega)]
  have d0 : ((s.size : Int) % 2 != 0) = false := by simp; omega
  have d1 : decide (100000 < (s.size : Int)) = false := by simp; omega
  obtain ⟨W0, hW0⟩ : ∃ W0, W0 = w.alloc (.cells #[.bool false, .string ⟨#[]⟩, .int .i64 0] 30) := ⟨_, rfl⟩
  have HW := hid hW0
  go_enter Try.func19, Try.ntmps19
  go_wp2
  rw [← HW.out]
  clear hW0
  go_loopw [3, 4] (fun v i wr => ∃ (k : Nat) (xs : List Int), 2 * k ≤ s.size ∧ i = .int .i64 (2 * k : Nat) ∧ xs.length = k ∧ unhexL (s.data.toList.take (2 * k)) = some xs ∧ OwnNums wr W0.heap.size 5 .u8 v xs ∧ Below W0.heap.size W0 wr)
    (fun _ i _ => s.size - (intOf i).toNat)
  case atStart =>
    refine ⟨0, [], by omega, rfl, rfl, rfl, ?_, (Below.refl _ _).alloc (Nat.le_refl _) _⟩
    rw [show w.heap.size + 1 = W0.heap.size by rw [HW.out]; simp]
    exact OwnNums.empty W0 5 .u8
  case round =>
    obtain ⟨k, xs, hk, rfl, hxl, hux, hown, hbel⟩ := hrel
    have hB : Blk wr w.heap.size #[.bool false, .string ⟨#[]⟩, .int .i64 0] 30 := (hbel.block _ (by rw [HW.out]; simp)).trans (by rw [HW.out]; exact Blk.made w _ _)
    have q0 := hB.cell 0 _ rfl
    have q1 := hB.cell 1 _ rfl
    have q2 := hB.cell 2 _ rfl
    have f0 := hB.free 0
    have f1 := hB.free 1
    have f2 := hB.free 2
    have HB : Hid (Below w.heap.size w wr) := by
      have h1 : Below w.heap.size w W0 := by rw [HW.out]; exact (Below.refl _ _).alloc (Nat.le_refl _) _
      exact h1.trans (hbel.mono (by rw [HW.out]; simp))
    have HX := hid hux
    have hxn : xs.length ≤ 50000 := by omega
    have HXL := hid hxl
    clear hB hux hxl
    by_cases hlt : 2 * k < s.size
    · have HT := hid (unhex_two s (2 * k) xs HX.out (by omega))
      have c0 : s[2 * k].toNat < 256 := s[2 * k].toNat_lt
      have c1 : s[2 * k + 1].toNat < 256 := s[2 * k + 1].toNat_lt
      by_cases hok : (∃ a, dig s[2 * k].toNat = some a) ∧ (∃ b, dig s[2 * k + 1].toNat = some b)
      · obtain ⟨⟨a, ha⟩, ⟨b, hb⟩⟩ := hok
        have la := dig_lt _ a ha
        have lb := dig_lt _ b hb
        have e0 : digI s[2 * k].toNat = a := by unfold digI; rw [ha]
        have e1 : digI s[2 * k + 1].toNat = b := by unfold digI; rw [hb]
        have HS := hid (HT.out.1 a b ha hb)
        clear ha hb
        go_wp2_with fail
        refine (l01Hex_all _ c0 _).mono ?_
        rintro e w1 ⟨rfl, rfl⟩
        go_wp2_with fail
        refine (l01Hex_all _ c1 _).mono ?_
        rintro e w1 ⟨rfl, rfl⟩
        rw [e1]
        clear e0 e1
        go_wp2_with (first | (at_builtin; refine append_num W0 _ rfl (.tmp 40) (.tmp 46) 43 rfl 5 .u8 1 Try.underlying43 Try.info5 (by decide) _ xs ((a : Int) * 16 + b) rfl hown hbel rfl ?_ ?_; omega))
        intro v' w2 hown' hbel' _
        clear hown hbel
        go_wp2
        go_roundw
        case rel =>
          refine ⟨k + 1, xs ++ [((16 * a + b : Nat) : Int)], by omega, by go_num, by simp [HXL.out], HS.out, ?_, hbel'⟩
          rw [show ((16 * a + b : Nat) : Int) = (a : Int) * 16 + b by omega]; exact hown'
        case measure => simp [intOf]; omega
      · have hno : dig s[2 * k].toNat = none ∨ dig s[2 * k + 1].toNat = none := by
          cases h1 : dig s[2 * k].toNat with
          | none => exact Or.inl rfl
          | some a =>
            cases h2 : dig s[2 * k + 1].toNat with
            | none => exact Or.inr rfl
            | some b => exact absurd ⟨⟨a, h1⟩, ⟨b, h2⟩⟩ hok
        have HE : Hid (unhex s = none) := by show _ = _; rw [HU.out, HT.out.2 hno]; rfl
        have hneg : decide (digI s[2 * k].toNat < 0) = true ∨ (decide (digI s[2 * k].toNat < 0) = false ∧ decide (digI s[2 * k + 1].toNat < 0) = true) := by
          rcases hno with h | h
          · left; simp [digI, h]
          · by_cases h3 : digI s[2 * k].toNat < 0
            · left; simp [h3]
            · right; exact ⟨by simpa using h3, by simp [digI, h]⟩
        clear hok hno
        rcases hneg with h1 | ⟨h1, h3⟩
        · go_wp2_with fail
          refine (l01Hex_all _ c0 _).mono ?_
          rintro e w1 ⟨rfl, rfl⟩
          go_wp2_with fail
          refine (l01Hex_all _ c1 _).mono ?_
          rintro e w1 ⟨rfl, rfl⟩
          go_wp2
          refine bodyPost_ret (v := .agg #[.bool false, .string ⟨#[]⟩, .int .i64 0]) (by simp [results, Try.results19, go_sem, q0, q1, q2]) rfl ⟨by rw [HE.out]; rfl, ?_⟩
          exact ((HB.out.setCell (Nat.le_refl _) _).setCell (Nat.le_refl _) _).setCell (Nat.le_refl _) _
        · go_wp2_with fail
          refine (l01Hex_all _ c0 _).mono ?_
          rintro e w1 ⟨rfl, rfl⟩
          go_wp2_with fail
          refine (l01Hex_all _ c1 _).mono ?_
          rintro e w1 ⟨rfl, rfl⟩
          go_wp2
          refine bodyPost_ret (v := .agg #[.bool false, .string ⟨#[]⟩, .int .i64 0]) (by simp [results, Try.results19, go_sem, q0, q1, q2]) rfl ⟨by rw [HE.out]; rfl, ?_⟩
          exact ((HB.out.setCell (Nat.le_refl _) _).setCell (Nat.le_refl _) _).setCell (Nat.le_refl _) _
    · have HE : Hid (unhex s = some (strOfNums xs, (s.size : Int))) := by
        show _ = _
        have := HX.out
        rw [List.take_of_length_le (by simp; omega)] at this
        rw [HU.out, this]; rfl
      have hcv := conv_owned wr 43 5 9 Try.underlying43 Try.underlying5 Try.underlying9 hown
      go_wp2
      refine bodyPost_ret (v := .agg #[.bool true, .string (strOfNums xs), .int .i64 s.size]) (by simp [results, Try.results19, go_sem, q0, q1, q2]) rfl ⟨by rw [HE.out]; rfl, ?_⟩
      exact ((HB.out.setCell (Nat.le_refl _) _).setCell (Nat.le_refl _) _).setCell (Nat.le_refl _) _
end Go.Proofs.Yteimhnklebppkah
