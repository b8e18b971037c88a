import Derived.Test.YtjeahllaajpddabMvK
import Derived.Deep.RegionHeld3
namespace Go.Proofs.Ytjeahllaajpddab
open Go.RowKit
theorem Ints.drew {k : IntKind} {w : World} {a : Option Addr} {len cap : Nat} {xs : List Int} (h : Ints k w a len cap xs) : Ints k w.drew a len cap xs := h
set_option maxRecDepth 20000 in
set_option maxHeartbeats 2000000 in
theorem sMove (a : Option Addr) (n cap : Nat) (x y : Nat → Int) (hl : n ≤ 1048576) (a' : Option Addr) (n' cap' : Nat) (x' y' : Nat → Int) (hl' : n' ≤ 1048576) (k : Option Addr) (len kc : Nat) (ts : Nat → ByteArray) (hlen : len ≤ 1048576) (hts : ∀ i, i < len → (ts i).size ≤ 1048576) (m : Int) (w : World) (h : Prs w a n cap x y) (h' : Prs w a' n' cap' x' y') (hk : Strs w k len kc ts) :
    Calls Try.prog 18 #[.slice a n cap, .slice a' n' cap', .slice k len kc, .int .i64 m] w fun e w' => e = .returned (.int .i64 (mvV ts len n x y n' x' y' m)) ∧ Below w.heap.size w w' := by
  have HP := hid h
  have HP' := hid h'
  have HK := hid hk
  have HTS := hid hts
  clear h h' hk hts
  have NF := hid (sNodes a n cap x y hl w HP.out)
  have NF2 := hid (sNodes a' n' cap' x' y' hl' w HP'.out)
  by_cases hok : NdOk n x y
  case neg =>
    have F : Hid (ndF n x y = 1) := if_neg hok
    have E : Hid (mvV ts len n x y n' x' y' m = -1) := if_neg (fun q => hok q.1)
    rw [F.out] at NF
    go_enter Try.func18, Try.ntmps18
    go_wp2_with fail
    refine NF.out.mono ?_
    rintro e w1 ⟨rfl, rfl⟩
    go_wp2
    go_ret
    exact ⟨by rw [E.out]; rfl, Below.refl _ _⟩
  have F : Hid (ndF n x y = 0) := if_pos hok
  rw [F.out] at NF
  by_cases hok' : NdOk n' x' y'
  case neg =>
    have F2 : Hid (ndF n' x' y' = 1) := if_neg hok'
    have E : Hid (mvV ts len n x y n' x' y' m = -1) := if_neg (fun q => hok' q.2.1)
    rw [F2.out] at NF2
    go_enter Try.func18, Try.ntmps18
    go_wp2_with fail
    refine NF.out.mono ?_
    rintro e w1 ⟨rfl, rfl⟩
    go_wp2_with fail
    refine NF2.out.mono ?_
    rintro e w2 ⟨rfl, rfl⟩
    go_wp2
    go_ret
    exact ⟨by rw [E.out]; rfl, Below.refl _ _⟩
  have F2 : Hid (ndF n' x' y' = 0) := if_pos hok'
  rw [F2.out] at NF2
  by_cases h100 : 100 < len
  case pos =>
    have E : Hid (mvV ts len n x y n' x' y' m = -1) := if_neg (by omega)
    have d0 : decide ((100 : Int) < (len : Int)) = true := by simp; omega
    go_enter Try.func18, Try.ntmps18
    go_wp2_with fail
    refine NF.out.mono ?_
    rintro e w1 ⟨rfl, rfl⟩
    go_wp2_with fail
    refine NF2.out.mono ?_
    rintro e w2 ⟨rfl, rfl⟩
    go_wp2
    go_ret
    exact ⟨by rw [E.out]; rfl, Below.refl _ _⟩
  have d0 : decide ((100 : Int) < (len : Int)) = false := by simp; omega
  have E : Hid (mvV ts len n x y n' x' y' m = mvS ts n x y n' x' y' m len) := if_pos ⟨hok, hok', by omega⟩
  go_enter Try.func18, Try.ntmps18
  go_wp2_with fail
  refine NF.out.mono ?_
  rintro e w1 ⟨rfl, h1⟩
  have h1s := h1.symm
  subst h1s
  go_wp2_with fail
  refine NF2.out.mono ?_
  rintro e w2 ⟨rfl, h2⟩
  have h2s := h2.symm
  subst h2s
  clear NF NF2
  go_wp2_with fail
  go_loopw [9, 10] (fun q r wr => ∃ i : Nat, i ≤ len ∧ q = .int .i64 (mvS ts n x y n' x' y' m i) ∧ r = .int .i64 (i : Int) ∧ Below w.heap.size w wr) (fun _ r _ => len - (intOf r).toNat)
  case atStart => exact ⟨0, Nat.zero_le _, rfl, rfl, Below.refl _ _⟩
  case round =>
    obtain ⟨i, hi, rfl, rfl, hB⟩ := hrel
    have HB := hid hB
    clear hB
    by_cases hlt : i < len
    · have hlt' : (i : Int) < (len : Int) := by omega
      have k0 : (0 : Int) ≤ (i : Int) := by omega
      rcases (HK.out.below HB.out).2 with q0 | ⟨b, off, rfl, hbl, hc⟩
      · omega
      have c0 := hc i hlt
      clear hc
      have hsz := HTS.out i hlt
      have SB := mvS_bd ts n x y n' x' y' m i
      have KB := mvK_bd (ts i) n x y n' x' y' m
      have SU : Hid (mvS ts n x y n' x' y' m (i + 1) = mvS ts n x y n' x' y' m i + mvK (ts i) n x y n' x' y' m) := rfl
      have KD : Hid (mvK (ts i) n x y n' x' y' m = if plC (ts i) n x y m = 0 ∧ plC (ts i) n' x' y' m = 0 then (nwc (plL (ts i) n x y m) (plL (ts i) n' x' y' m) : Int) else 0) := rfl
      have A1 := hid (sAnsPl a n cap x y hl (ts i) hsz m wr (HP.out.below HB.out))
      have A2 := fun w3 (hb : Below w.heap.size w w3) => hid (sAnsPl a' n' cap' x' y' hl' (ts i) hsz m w3 (HP'.out.below hb))
      have u1 := plL_len (ts i) n x y m
      have u2 := plL_len (ts i) n' x' y' m
      obtain ⟨C, hC⟩ : ∃ C, C = plC (ts i) n x y m := ⟨_, rfl⟩
      obtain ⟨C2, hC2⟩ : ∃ C, C = plC (ts i) n' x' y' m := ⟨_, rfl⟩
      obtain ⟨us, hU⟩ : ∃ us, us = plL (ts i) n x y m := ⟨_, rfl⟩
      obtain ⟨vs, hV⟩ : ∃ us, us = plL (ts i) n' x' y' m := ⟨_, rfl⟩
      obtain ⟨S, hS⟩ : ∃ S, S = mvS ts n x y n' x' y' m i := ⟨_, rfl⟩
      obtain ⟨Z, hZ⟩ : ∃ Z, Z = mvK (ts i) n x y n' x' y' m := ⟨_, rfl⟩
      rw [← hC, ← hU] at A1
      rw [← hC2, ← hV] at A2
      rw [← hC, ← hC2, ← hU, ← hV, ← hZ] at KD
      rw [← hU] at u1
      rw [← hV] at u2
      rw [← hS, ← hZ] at SU
      rw [← hS] at SB ⊢
      rw [← hZ] at KB
      obtain ⟨t, ht⟩ : ∃ t, t = ts i := ⟨_, rfl⟩
      rw [← ht] at c0 A1 A2
      clear hC hC2 hU hV hS hZ ht hsz
      go_wp2_with fail
      refine A1.out.mono ?_
      rintro e w3 ⟨a3, c3, rfl, ho3, hb3⟩
      have HB3 : Hid (Below w.heap.size w w3) := HB.out.trans (hb3.mono HB.out.size)
      have I3 := hid ho3.ints
      have cb : w3.cell? ⟨b, off + i, none⟩ = some (.string t) := (hb3.cell (p := ⟨b, off + i, none⟩) hbl).trans c0
      have hbl3 : b < w3.heap.size := Nat.lt_of_lt_of_le hbl hb3.size
      clear A1 ho3 hb3 c0
      obtain ⟨w4, hw4⟩ : ∃ v, v = w3.alloc (.cells #[.int .i64 C, .slice a3 us.length c3] 31) := ⟨_, rfl⟩
      have R4 : Hid (RowAt w4 w3.heap.size 31 #[.int .i64 C, .slice a3 us.length c3]) := by rw [hw4]; exact RowAt.new _ _ _
      have HB4 : Hid (Below w.heap.size w w4) := by rw [hw4]; exact HB3.out.alloc HB3.out.size _
      have I4 : Hid (Ints .i64 w4 a3 us.length c3 us) := by rw [hw4]; exact I3.out.alloc _
      have cb4 : (w3.alloc (.cells #[.int .i64 C, .slice a3 us.length c3] 31)).cell? ⟨b, off + i, none⟩ = some (.string t) := (((Below.refl _ w3).alloc (Nat.le_refl _) _).cell (p := ⟨b, off + i, none⟩) hbl3).trans cb
      have B4 := A2 w4 HB4.out
      clear A2 cb
      have HW4 := hid hw4
      clear hw4
      go_wp2_with fail
      rw [← HW4.out]
      clear HW4
      refine B4.out.mono ?_
      rintro e w5 ⟨a5, c5, rfl, ho5, hb5⟩
      have HB5 : Hid (Below w.heap.size w w5) := HB4.out.trans (hb5.mono HB4.out.size)
      have I5 := hid ho5.ints
      have I45 := hid (I4.out.below hb5)
      have R5 := hid (R4.out.below hb5 R4.out.lt)
      clear B4 ho5 hb5 cb4
      obtain ⟨w6, hw6⟩ : ∃ v, v = w5.alloc (.cells #[.int .i64 C2, .slice a5 vs.length c5] 31) := ⟨_, rfl⟩
      have R6 : Hid (RowAt w6 w3.heap.size 31 #[.int .i64 C, .slice a3 us.length c3]) := by rw [hw6]; exact R5.out.alloc _
      have Q6 : Hid (RowAt w6 w5.heap.size 31 #[.int .i64 C2, .slice a5 vs.length c5]) := by rw [hw6]; exact RowAt.new _ _ _
      have HB6 : Hid (Below w.heap.size w w6) := by rw [hw6]; exact HB5.out.alloc HB5.out.size _
      have I6 : Hid (Ints .i64 w6 a3 us.length c3 us) := by rw [hw6]; exact I45.out.alloc _
      have J6 : Hid (Ints .i64 w6 a5 vs.length c5 vs) := by rw [hw6]; exact I5.out.alloc _
      clear R4 HB4 I4 R5 I5 I45 I3
      have HW6 := hid hw6
      have x0 := R6.out.cell 0
      have y0 := Q6.out.cell 0
      rw [hw6] at x0 y0
      clear hw6
      by_cases e0 : C = 0
      case neg =>
        have d1 : (C != 0) = true := by simp [e0]
        have EZ : Hid (Z = 0) := by show _ = _; rw [KD.out, if_neg (fun q => e0 q.1)]
        go_wp2
        rw [← HW6.out]
        go_roundw
        case rel => exact ⟨i + 1, hlt, by rw [SU.out, EZ.out, Int.add_zero], by go_num, HB6.out⟩
        case measure => simp [intOf]; omega
      by_cases e1 : C2 = 0
      case neg =>
        have d1 : (C != 0) = false := by simp [e0]
        have d2 : (C2 != 0) = true := by simp [e1]
        have EZ : Hid (Z = 0) := by show _ = _; rw [KD.out, if_neg (fun q => e1 q.2)]
        go_wp2
        rw [← HW6.out]
        go_roundw
        case rel => exact ⟨i + 1, hlt, by rw [SU.out, EZ.out, Int.add_zero], by go_num, HB6.out⟩
        case measure => simp [intOf]; omega
      have EZ : Hid (Z = (nwc us vs : Int)) := by show _ = _; rw [KD.out, if_pos ⟨e0, e1⟩]
      subst e0
      subst e1
      go_wp2_with fail
      rw [← HW6.out]
      clear HW6 x0 y0
      go_loopw [9, 13] (fun q r wq => ∃ j : Nat, j ≤ vs.length ∧ q = .int .i64 (S + (nwc us (vs.take j) : Int)) ∧ r = .int .i64 (j : Int) ∧ RowAt wq w3.heap.size 31 #[.int .i64 0, .slice a3 us.length c3] ∧ RowAt wq w5.heap.size 31 #[.int .i64 0, .slice a5 vs.length c5] ∧ Below w.heap.size w wq ∧ Ints .i64 wq a3 us.length c3 us ∧ Ints .i64 wq a5 vs.length c5 vs) (fun _ r _ => vs.length - (intOf r).toNat)
      case atStart => exact ⟨0, Nat.zero_le _, by simp [nwc], rfl, R6.out, Q6.out, HB6.out, I6.out, J6.out⟩
      case round =>
        obtain ⟨j, hj, rfl, rfl, hR6, hQ6, hB6, hI6, hJ6⟩ := hrel
        have HR6 := hid hR6
        have HQ6 := hid hQ6
        have HBq := hid hB6
        have HI6 := hid hI6
        have HJ6 := hid hJ6
        clear hR6 hQ6 hB6 hI6 hJ6
        have x1 := HR6.out.cell 1
        have y1 := HQ6.out.cell 1
        by_cases hjlt : j < vs.length
        · have hjlt' : (j : Int) < ((vs.length : Nat) : Int) := by omega
          have j0 : (0 : Int) ≤ (j : Int) := by omega
          rcases HJ6.out.2.2 with q0 | ⟨bv, ov, rfl, hbv, hcv⟩
          · omega
          have cv := hcv j hjlt
          clear hcv
          have NT := nwc_take us vs j hjlt
          have NB := nwc_le us (vs.take j)
          rw [List.length_take] at NB
          obtain ⟨u, hu⟩ : ∃ u, u = vs.getD j 0 := ⟨_, rfl⟩
          rw [← hu] at cv NT
          clear hu
          obtain ⟨N, hN⟩ : ∃ N, N = nwc us (vs.take j) := ⟨_, rfl⟩
          rw [← hN] at NT NB ⊢
          have HNT := hid NT
          clear NT hN
          go_wp2_with fail
          go_region_held3 (fun wx => wx.cell? ⟨w3.heap.size, 1, none⟩ = some (.slice a3 us.length c3) ∧ wx.cell? ⟨w5.heap.size, 1, none⟩ = some (.slice (some ⟨bv, ov, none⟩) vs.length c5) ∧ wx.cell? ⟨bv, ov + j, none⟩ = some (.int .i64 u)) ((first | (go_keep; done))) ((go_at_call 25; refine (sInI a3 us.length c3 us u (by omega) _ HI6.out.drew).mono ?_; rintro e w7 ⟨rfl, rfl⟩))
          by_cases q : u ∈ us
          · have dq : decide (u ∈ us) = true := by simp [q]
            have EN : Hid (nwc us (vs.take (j + 1)) = N) := by show _ = _; rw [HNT.out, if_pos q]; rfl
            rw [dq]
            go_wp2
            go_roundw
            case rel => exact ⟨j + 1, hjlt, by rw [EN.out], by go_num, HR6.out.drew, HQ6.out.drew, HBq.out.drew, HI6.out.drew, HJ6.out.drew⟩
            case measure => simp [intOf]; omega
          · have dq : decide (u ∈ us) = false := by simp [q]
            have EN : Hid (nwc us (vs.take (j + 1)) = N + 1) := by show _ = _; rw [HNT.out, if_neg q]
            rw [dq]
            go_wp2
            go_roundw
            case rel => exact ⟨j + 1, hjlt, by rw [EN.out]; go_num, by go_num, HR6.out.drew, HQ6.out.drew, HBq.out.drew, HI6.out.drew, HJ6.out.drew⟩
            case measure => simp [intOf]; omega
        · have hjlt' : ¬ (j : Int) < ((vs.length : Nat) : Int) := by omega
          have EV : Hid (S + (nwc us (vs.take j) : Int) = mvS ts n x y n' x' y' m (i + 1)) := by show _ = _; rw [SU.out, EZ.out, List.take_of_length_le (by omega)]
          rw [EV.out]
          go_wp2
          go_roundw
          case rel => exact ⟨i + 1, hlt, rfl, by go_num, HBq.out⟩
          case measure => simp [intOf]; omega
    · have hlt' : ¬ (i : Int) < (len : Int) := by omega
      obtain rfl : i = len := by omega
      go_wp2
      go_ret
      exact ⟨by rw [E.out]; rfl, HB.out⟩
end Go.Proofs.Ytjeahllaajpddab
