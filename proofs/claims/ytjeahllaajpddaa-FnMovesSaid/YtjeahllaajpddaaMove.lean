import Derived.Test.YtjeahllaajpddaaMvK
namespace Go.Proofs.Ytjeahllaajpddaa
open Go.RowKit
set_option maxRecDepth 20000 in
set_option maxHeartbeats 2000000 in
theorem iMove (a : Option Addr) (n cap : Nat) (x y : Nat → Int) (hl : n ≤ 1048576) (a' : Option Addr) (n' cap' : Nat) (x' y' : Nat → Int) (hl' : n' ≤ 1048576) (k : Option Addr) (len kc : Nat) (ts : Nat → ByteArray) (hlen : len ≤ 1048576) (hts : ∀ i, i < len → (ts i).size ≤ 1048576) (m : Int) (w : World) (h : Prs w a n cap x y) (h' : Prs w a' n' cap' x' y') (hk : Strs w k len kc ts) :
    Calls Try.prog 21 #[.slice a n cap, .slice a' n' cap', .slice k len kc, .int .i64 m] w fun e w' => e = .returned (.int .i64 (mvV ts len n x y n' x' y' m)) ∧ Below w.heap.size w w' := by
  have HP := hid h
  have HP' := hid h'
  have HK := hid hk
  have HTS := hid hts
  clear h h' hk hts
  have NF := hid (iNodes a n cap x y hl w HP.out)
  by_cases h100 : 100 < len
  · have E : Hid (mvV ts len n x y n' x' y' m = -1) := if_neg (by omega)
    have d0 : decide ((100 : Int) < (len : Int)) = true := by simp; omega
    go_enter Try.func21, Try.ntmps21
    go_wp2
    go_ret
    exact ⟨by rw [E.out]; rfl, Below.refl _ _⟩
  have d0 : decide ((100 : Int) < (len : Int)) = false := by simp; omega
  by_cases hok : NdOk n x y
  case neg =>
    have F : Hid (ndF n x y = 1) := if_neg hok
    have E : Hid (mvV ts len n x y n' x' y' m = -1) := if_neg (fun q => hok q.1)
    rw [F.out] at NF
    go_enter Try.func21, Try.ntmps21
    go_wp2_with fail
    refine NF.out.mono ?_
    rintro e w1 ⟨rfl, hb1⟩
    go_wp2
    go_ret
    exact ⟨by rw [E.out]; rfl, hb1⟩
  have F : Hid (ndF n x y = 0) := if_pos hok
  rw [F.out] at NF
  have NF2 := fun w1 (hb : Below w.heap.size w w1) => hid (iNodes a' n' cap' x' y' hl' w1 (HP'.out.below hb))
  by_cases hok' : NdOk n' x' y'
  case neg =>
    have F2 : Hid (ndF n' x' y' = 1) := if_neg hok'
    have E : Hid (mvV ts len n x y n' x' y' m = -1) := if_neg (fun q => hok' q.2.1)
    rw [F2.out] at NF2
    go_enter Try.func21, Try.ntmps21
    go_wp2_with fail
    refine NF.out.mono ?_
    rintro e w1 ⟨rfl, hb1⟩
    have HB1 := hid hb1
    have N2 := NF2 w1 hb1
    clear NF2 hb1
    go_wp2_with fail
    refine N2.out.mono ?_
    rintro e w2 ⟨rfl, hb2⟩
    go_wp2
    go_ret
    exact ⟨by rw [E.out]; rfl, HB1.out.trans (hb2.mono HB1.out.size)⟩
  have F2 : Hid (ndF n' x' y' = 0) := if_pos hok'
  have E : Hid (mvV ts len n x y n' x' y' m = mvS ts n x y n' x' y' m len) := if_pos ⟨hok, hok', by omega⟩
  rw [F2.out] at NF2
  go_enter Try.func21, Try.ntmps21
  go_wp2_with fail
  refine NF.out.mono ?_
  rintro e w1 ⟨rfl, hb1⟩
  have HB1 := hid hb1
  have N2 := NF2 w1 hb1
  clear NF2 hb1
  go_wp2_with fail
  refine N2.out.mono ?_
  rintro e w2 ⟨rfl, hb2⟩
  have HB2 : Hid (Below w.heap.size w w2) := HB1.out.trans (hb2.mono HB1.out.size)
  clear hb2 N2
  go_wp2_with fail
  go_loopw [9, 27] (fun q r wr => ∃ i : Nat, i ≤ len ∧ q = .int .i64 (mvS ts n x y n' x' y' m i) ∧ r = .int .i64 (i : Int) ∧ Below w.heap.size w wr) (fun _ r _ => len - (intOf r).toNat)
  case atStart => exact ⟨0, Nat.zero_le _, rfl, rfl, HB2.out⟩
  case round =>
    obtain ⟨i, hi, rfl, rfl, hB⟩ := hrel
    have HB := hid hB
    clear hB
    by_cases hlt : i < len
    · have hlt' : (i : Int) < (len : Int) := by omega
      have k0 : (0 : Int) ≤ (i : Int) := by omega
      rcases (HK.out.below HB.out).2 with q0 | ⟨b, off, rfl, hbl, hc⟩
      · omega
      have c0 := hc i hlt
      clear hc
      have hsz := HTS.out i hlt
      have SB := mvS_bd ts n x y n' x' y' m i
      have KB := mvK_bd (ts i) n x y n' x' y' m
      have SU : Hid (mvS ts n x y n' x' y' m (i + 1) = mvS ts n x y n' x' y' m i + mvK (ts i) n x y n' x' y' m) := rfl
      have KD : Hid (mvK (ts i) n x y n' x' y' m = if plC (ts i) n x y m = 0 ∧ plC (ts i) n' x' y' m = 0 then (nwc (plL (ts i) n x y m) (plL (ts i) n' x' y' m) : Int) else 0) := rfl
      have A1 := hid (iAnsPl a n cap x y hl (ts i) hsz m wr (HP.out.below HB.out))
      have A2 := fun w3 (hb : Below w.heap.size w w3) => hid (iAnsPl a' n' cap' x' y' hl' (ts i) hsz m w3 (HP'.out.below hb))
      have u1 := plL_len (ts i) n x y m
      have u2 := plL_len (ts i) n' x' y' m
      obtain ⟨C, hC⟩ : ∃ C, C = plC (ts i) n x y m := ⟨_, rfl⟩
      obtain ⟨C2, hC2⟩ : ∃ C, C = plC (ts i) n' x' y' m := ⟨_, rfl⟩
      obtain ⟨us, hU⟩ : ∃ us, us = plL (ts i) n x y m := ⟨_, rfl⟩
      obtain ⟨vs, hV⟩ : ∃ us, us = plL (ts i) n' x' y' m := ⟨_, rfl⟩
      obtain ⟨S, hS⟩ : ∃ S, S = mvS ts n x y n' x' y' m i := ⟨_, rfl⟩
      obtain ⟨Z, hZ⟩ : ∃ Z, Z = mvK (ts i) n x y n' x' y' m := ⟨_, rfl⟩
      rw [← hC, ← hU] at A1
      rw [← hC2, ← hV] at A2
      rw [← hC, ← hC2, ← hU, ← hV, ← hZ] at KD
      rw [← hU] at u1
      rw [← hV] at u2
      rw [← hS, ← hZ] at SU
      rw [← hS] at SB ⊢
      rw [← hZ] at KB
      obtain ⟨t, ht⟩ : ∃ t, t = ts i := ⟨_, rfl⟩
      rw [← ht] at c0 A1 A2
      clear hC hC2 hU hV hS hZ ht hsz
      go_wp2_with fail
      refine A1.out.mono ?_
      rintro e w3 ⟨a3, c3, rfl, ho3, hb3⟩
      have HB3 : Hid (Below w.heap.size w w3) := HB.out.trans (hb3.mono HB.out.size)
      have I3 := hid ho3.ints
      have B4 := A2 w3 HB3.out
      clear A1 A2 ho3 hb3 c0
      go_wp2_with fail
      refine B4.out.mono ?_
      rintro e w4 ⟨a4, c4, rfl, ho4, hb4⟩
      have HB4 : Hid (Below w.heap.size w w4) := HB3.out.trans (hb4.mono HB3.out.size)
      have I4 := hid ho4.ints
      have I34 := hid (I3.out.below hb4)
      clear B4 ho4 hb4
      go_wp2_with fail
      refine (iNewc C a3 c3 us C2 a4 c4 vs u1 u2 _ I34.out I4.out).mono ?_
      rintro e w5 ⟨rfl, hb5⟩
      rw [← KD.out]
      have HB5 : Hid (Below w.heap.size w w5) := HB4.out.trans (hb5.mono HB4.out.size)
      clear hb5
      go_wp2
      go_roundw
      case rel => exact ⟨i + 1, hlt, by rw [SU.out], by go_num, HB5.out⟩
      case measure => simp [intOf]; omega
    · have hlt' : ¬ (i : Int) < (len : Int) := by omega
      obtain rfl : i = len := by omega
      go_wp2
      go_ret
      exact ⟨by rw [E.out]; rfl, HB.out⟩
end Go.Proofs.Ytjeahllaajpddaa
