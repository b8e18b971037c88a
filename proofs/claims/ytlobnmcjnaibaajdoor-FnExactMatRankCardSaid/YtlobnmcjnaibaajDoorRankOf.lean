import Derived.Test.YtlobnmcjnaibaajDoorLawMx
import Derived.Test.YtlobnmcjnaibaajDoorSInv2
import Derived.Test.YtlobnmcjnaibaajDoorFaultOf
import Derived.Test.YtlobnmcjnaibaajDoorIMult
import Derived.Deep.RegionHeld3
namespace Go.Proofs.YtlobnmcjnaibaajDoor
open Go.RowKit
/-- what MatRank answers -/
noncomputable def rkI (r c : Int) (xs : List Int) : Int := open Classical in if mfault r c xs = 0 then (rank r.toNat c.toNat (fm (mo c.toNat (xs.map Int.toNat))) : Nat) else -1
theorem nl_back (ys : List Nat) : (nl ys).map Int.toNat = ys := by
  unfold nl; rw [List.map_map]
  exact (List.map_congr_left fun x _ => by simp).trans (List.map_id ys)
theorem srankI (r c : Int) (xs : List Int) (a : Option Addr) (len cap : Nat) (w : World) (h : Ints .i64 w a len cap xs) (hl : len ≤ 1048576) :
    Calls Tryd.prog 17 #[mxv r c a len cap] w fun e w' => e = .returned (.int .i64 (rkI r c xs)) ∧ Below w.heap.size w w' := by
  unfold rkI
  rcases mfault_01 r c xs with f | f
  · rw [if_pos f]
    obtain ⟨R, C, rfl, rfl, h1, h2, h3, h4, ys, rfl, h5, h6⟩ := mfault_ok f
    simp only [Int.toNat_natCast, nl_back]
    have hln : len = R * C := by have := h.1; rw [nl_len] at this; omega
    exact srank_ok R C h1 h2 h3 h4 ys (fun i j _ _ => small_of h6 _) a len cap w h hln f
  · rw [if_neg (by omega)]
    exact srank_no r c xs a len cap w h hl f
set_option maxRecDepth 20000 in
set_option maxHeartbeats 2000000 in
/-- The law, from what the program's own function answers. -/
theorem fnExactMatRank_of (HI : ∀ (r c : Int) (b len : Nat) (xs : List Int) (w : World), Wr .i64 w b 0 xs → xs.length = len → len ≤ 1048576 → Tab w → Calls Tryd.prog 18 #[mxv r c (some ⟨b, 0, none⟩) len len] w fun e w' => e = .returned (.int .i64 (rkI r c xs)) ∧ Below w.heap.size w w')
    {w : World} (hT : Tab w) (r : Int) (_wr : (Lit.int .i64 r).wf = true) (c : Int) (_wc : (Lit.int .i64 c).wf = true) (a : Option Addr) (len cap : Nat) (zs : List Int) (h : IsRow .i64 w a len cap zs) :
    Calls Tryd.prog 5 #[.agg #[.int .i64 r, .int .i64 c, .slice a len cap]] w fun e w' => e = .returned (.bool true) ∧ Below w.heap.size w w' := by
  clear _wr _wc
  have hm := h.le
  unfold maxLen at hm
  obtain ⟨xs, hxs⟩ : ∃ xs, xs = zs.take len := ⟨_, rfl⟩
  have HH : Hid (Ints .i64 w a len cap xs) := by show Ints _ _ _ _ _ _; rw [hxs]; exact Ints.of_isRow h
  have hxl : Hid (xs.length = len) := HH.out.1
  clear h hxs
  have HF := hid HI
  have HT := hid hT
  clear HI hT
  by_cases hle : len ≤ 1048576
  · have hle' : (len : Int) ≤ 1048576 := by omega
    have dL : decide ((1048576 : Int) - (len : Int) < 0) = false := by simp; omega
    go_enter Tryd.func5, Tryd.ntmps5
    go_wp2_with fail
    refine (szMx r c a len cap 1048576 (by decide) (by decide) (by omega) _).mono ?_
    rintro e w1 ⟨rfl, hb1⟩
    rw [if_pos hle']
    have B1 : Hid (RowAt w1 w.heap.size 24 #[.int .i64 r, .int .i64 c, .slice a len cap]) := (RowAt.new w _ _).below hb1 (by rw [size_al]; omega)
    have L1 : Hid (Below w.heap.size w w1) := ((Below.refl _ _).alloc (Nat.le_refl _) _).trans (hb1.mono (by rw [size_al]; omega))
    clear hb1
    have c0 := B1.out.cell 0
    have c1 := B1.out.cell 1
    have c2 := B1.out.cell 2
    go_wp2_with fail
    refine (toMx r c a len cap xs w1 (HH.out.below L1.out) hle).mono ?_
    rintro e w2 ⟨b2, rfl, g2, hw2, hb2⟩
    have B2 := hid (B1.out.below hb2 B1.out.lt)
    have L2 := hid (L1.out.trans (hb2.mono L1.out.size))
    have W2 := hid hw2
    clear hb2 hw2 c0 c1 c2
    go_wp2_with fail
    refine (srankI r c xs (some ⟨b2, 0, none⟩) len len _ (W2.out.ints' hxl.out) hle).mono ?_
    rintro e w3 ⟨rfl, hb3⟩
    have B3 := hid (B2.out.below hb3 B2.out.lt)
    have L3 := hid (L2.out.trans (hb3.mono L2.out.size))
    clear hb3
    have c0 := B3.out.cell 0
    have c1 := B3.out.cell 1
    have c2 := B3.out.cell 2
    go_wp2_with fail
    refine (toMx r c a len cap xs _ (HH.out.below L3.out) hle).mono ?_
    rintro e w4 ⟨b4, rfl, g4, hw4, hb4⟩
    have B4 := hid (B3.out.below hb4 B3.out.lt)
    have L4 := hid (L3.out.trans (hb4.mono L3.out.size))
    have W4 := hid hw4
    clear hb4 hw4 c0 c1 c2
    go_wp2_with fail
    have W5 := hid (W4.out.alloc (.cells #[.int .i64 r, .int .i64 c, .slice (some ⟨b4, 0, none⟩) len len] 26))
    have B5 := hid (B4.out.alloc (.cells #[.int .i64 r, .int .i64 c, .slice (some ⟨b4, 0, none⟩) len len] 26))
    have L5 := hid (L4.out.alloc L4.out.size (.cells #[.int .i64 r, .int .i64 c, .slice (some ⟨b4, 0, none⟩) len len] 26))
    have X5 := hid (RowAt.new w4 26 #[.int .i64 r, .int .i64 c, .slice (some ⟨b4, 0, none⟩) len len])
    refine (HF.out r c b4 len xs _ W5.out hxl.out hle (HT.out.belowS L5.out)).mono ?_
    rintro e w6 ⟨rfl, hb6⟩
    have B6 := hid (B5.out.below hb6 B5.out.lt)
    have X6 := hid (X5.out.below hb6 X5.out.lt)
    have L6 := hid (L5.out.trans (hb6.mono L5.out.size))
    have W6 := hid (W5.out.below hb6 W5.out.lt)
    have hn6 : w4.heap.size < w6.heap.size := X6.out.lt
    clear hb6
    have c0 := B6.out.cell 0
    have c1 := B6.out.cell 1
    have c2 := B6.out.cell 2
    have x0 := X6.out.cell 0
    have x1 := X6.out.cell 1
    have x2 := X6.out.cell 2
    go_wp2_with fail
    go_region_held3 (fun wx => wx.cell? ⟨w.heap.size, 0, none⟩ = some (.int .i64 r) ∧ wx.cell? ⟨w.heap.size, 1, none⟩ = some (.int .i64 c) ∧ wx.cell? ⟨w.heap.size, 2, none⟩ = some (.slice a len cap) ∧ wx.cell? ⟨w4.heap.size, 0, none⟩ = some (.int .i64 r) ∧ wx.cell? ⟨w4.heap.size, 1, none⟩ = some (.int .i64 c) ∧ wx.cell? ⟨w4.heap.size, 2, none⟩ = some (.slice (some ⟨b4, 0, none⟩) len len))
      ((first | (go_keep; done) | exact ⟨B9.cell 0, B9.cell 1, B9.cell 2, X9.cell 0, X9.cell 1, X9.cell 2⟩ | exact ⟨B8.cell 0, B8.cell 1, B8.cell 2, X8.cell 0, X8.cell 1, X8.cell 2⟩))
      ((first
        | (go_at_call 8; refine (toMx r c a len cap xs _ ?_ hle).mono ?_; exact HH.out.below L6.out.drew; rintro e w8 ⟨b8, rfl, g8, hw8, hb8⟩; have B8 := B6.out.drew.below hb8 B6.out.lt; have X8 := X6.out.drew.below hb8 X6.out.lt; have L8 := L6.out.drew.trans (hb8.mono L6.out.size); have W8 := W6.out.drew.below hb8 W6.out.lt)
        | (go_at_call 11; refine (eqMx r c (some ⟨b4, 0, none⟩) len len (some ⟨b8, 0, none⟩) len len xs _ (W8.ints' hxl.out) (hw8.ints' hxl.out) (by rw [hxl.out]; exact hle)).mono ?_; rintro e w9 ⟨rfl, hb9⟩; have B9 := B8.below hb9 B8.lt; have X9 := X8.below hb9 X8.lt; have L9 := L8.trans (hb9.mono L8.size))))
    all_goals
      have L9' := hid L9
      clear L9 L8 B8 B9 X8 X9 W8 hw8 hb8 hb9
    all_goals go_wp2
    all_goals go_ret
    all_goals exact ⟨rfl, L9'.out⟩
  · have hle' : ¬ (len : Int) ≤ 1048576 := by omega
    go_enter Tryd.func5, Tryd.ntmps5
    go_wp2_with fail
    refine (szMx r c a len cap 1048576 (by decide) (by decide) (by omega) _).mono ?_
    rintro e w1 ⟨rfl, hb1⟩
    rw [if_neg (show ¬ (len : Int) ≤ 1048576 by omega)]
    go_wp2
    go_ret
    exact ⟨rfl, ((Below.refl _ _).alloc (Nat.le_refl _) _).trans (hb1.mono (by rw [size_al]; omega))⟩
end Go.Proofs.YtlobnmcjnaibaajDoor
