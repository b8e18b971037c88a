import Derived.Test.YtkppgjndmbbobaaGreatDoorIReqS
namespace Go.Proofs.YtkppgjndmbbobaaGreatDoor
open Go.RowKit
/-! The program's pairsFit, RequestFault. -/
set_option maxRecDepth 20000 in
set_option maxHeartbeats 2000000 in
theorem iPairsQ (a : Option Addr) (n cap : Nat) (o : Nat → Hp) (hn : n ≤ 1048576) (hs : ∀ i, i < n → (o i).nm.size ≤ 1048576 ∧ (o i).vl.size ≤ 1048576) (w : World) (h : Hps w a n cap o) :
    Calls Tryz.prog 74 #[.slice a n cap, .func (.func 75) #[] #[]] w fun e w' => e = .returned (.bool (pb (dfP n o ∧ ∀ i, i < n → qyP (o i)))) ∧ Below w.heap.size w w' := by
  have HH := hid h
  have HS := hid hs
  clear h hs
  by_cases h30 : n ≤ 30
  case neg =>
    have E : Hid (pb (dfP n o ∧ ∀ i, i < n → qyP (o i)) = false) := pb_f fun q => h30 q.1.1
    have d0 : (30 : Int) < (n : Int) := by omega
    go_enter Tryz.func74, Tryz.ntmps74
    go_wp2
    go_ret
    exact ⟨by rw [E.out]; rfl, Below.refl _ _⟩
  have d0 : ¬ (30 : Int) < (n : Int) := by omega
  go_enter Tryz.func74, Tryz.ntmps74
  go_wp2_with fail
  go_loopw [12] (fun q wr => ∃ k : Nat, k ≤ n ∧ q = .int .i64 k ∧ (∀ i, i < k → qyP (o i)) ∧ Below w.heap.size w wr) (fun q _ => n - (intOf q).toNat)
  case atStart => exact ⟨0, Nat.zero_le _, rfl, fun i hi => absurd hi (Nat.not_lt_zero _), Below.refl _ _⟩
  case round =>
    obtain ⟨k, hk, rfl, hA, hB⟩ := hrel
    have HA := hid hA
    have HB := hid hB
    clear hB hA
    by_cases hlt : k < n
    · have hlt' : (k : Int) < (n : Int) := by omega
      have k0 : (0 : Int) ≤ (k : Int) := by omega
      rcases (HH.out.below HB.out).2 with h00 | ⟨b, off, rfl, hbl, hc⟩
      · omega
      obtain ⟨c0, c1⟩ := hc k hlt
      have s1 := (HS.out k hlt).2
      have EV : Hid (o k = ⟨(o k).nm, (o k).vl⟩) := rfl
      obtain ⟨X0, hX0⟩ : ∃ v, v = (o k).nm := ⟨_, rfl⟩
      obtain ⟨X1, hX1⟩ : ∃ v, v = (o k).vl := ⟨_, rfl⟩
      rw [← hX0, ← hX1] at EV
      rw [← hX0] at c0
      rw [← hX1] at c1 s1
      clear hc hX0 hX1
      have K := fun wx => hid (iQy X0 X1 wx)
      by_cases hf : qyP (o k)
      · rw [pb_t (by rw [← EV.out]; exact hf)] at K
        have N : Hid (∀ i, i < k + 1 → qyP (o i)) := fun i hi => by
          by_cases e : i = k
          · subst e; exact hf
          · exact HA.out i (by omega)
        clear hf
        go_wp2_with fail
        refine (K _).out.mono ?_
        rintro e w2 ⟨rfl, hb2⟩
        have B2 : Hid (Below w.heap.size w w2) := (HB.out.alloc HB.out.size _).trans (hb2.mono (Nat.le_trans HB.out.size (by simp)))
        clear hb2 HB c0 c1
        go_wp2
        go_roundw
        case rel => exact ⟨k + 1, by omega, by go_num, N.out, B2.out⟩
        case measure => simp [intOf]; omega
      · rw [pb_f (by rw [← EV.out]; exact hf)] at K
        have E : Hid (pb (dfP n o ∧ ∀ i, i < n → qyP (o i)) = false) := pb_f fun q => hf (q.2 k hlt)
        clear hf
        go_wp2_with fail
        refine (K _).out.mono ?_
        rintro e w2 ⟨rfl, hb2⟩
        have B2 : Hid (Below w.heap.size w w2) := (HB.out.alloc HB.out.size _).trans (hb2.mono (Nat.le_trans HB.out.size (by simp)))
        clear hb2 HB c0 c1
        go_wp2
        go_ret
        exact ⟨by rw [E.out]; rfl, B2.out⟩
    · have hkn : k = n := by omega
      subst hkn
      have KP := hid (iPlaces a k cap o hn (fun i hi => (HS.out i hi).1) wr (HH.out.below HB.out))
      have E : Hid (((Maps.size (plD o k) : Int) == (k : Int)) = pb (dfP k o ∧ ∀ i, i < k → qyP (o i))) := by
        show _ = _
        by_cases q : Maps.size (plD o k) = k
        · rw [pb_t ⟨⟨h30, (plD_size o k).1 q⟩, HA.out⟩]
          simp [q]
        · rw [pb_f fun h => q ((plD_size o k).2 h.1.2)]
          simp
          omega
      generalize hZ : Maps.size (plD o k) = Z at E
      have HZ := hid hZ
      clear hZ
      go_wp2_with fail
      refine KP.out.mono ?_
      rintro e w2 ⟨b, rfl, hM, hb, hb2⟩
      have B2 : Hid (Below w.heap.size w w2) := HB.out.trans (hb2.mono HB.out.size)
      clear hb2 HB hb
      have hln := hM.len Tryz.underlying116 3
      rw [HZ.out] at hln
      clear hM
      go_wp2
      go_ret
      exact ⟨by rw [← E.out]; rfl, B2.out⟩
set_option maxRecDepth 20000 in
set_option maxHeartbeats 2000000 in
theorem iPairsH (a : Option Addr) (n cap : Nat) (o : Nat → Hp) (hn : n ≤ 1048576) (hs : ∀ i, i < n → (o i).nm.size ≤ 1048576 ∧ (o i).vl.size ≤ 1048576) (w : World) (h : Hps w a n cap o) :
    Calls Tryz.prog 74 #[.slice a n cap, .func (.func 76) #[] #[]] w fun e w' => e = .returned (.bool (pb (dfP n o ∧ ∀ i, i < n → hdP (o i)))) ∧ Below w.heap.size w w' := by
  have HH := hid h
  have HS := hid hs
  clear h hs
  by_cases h30 : n ≤ 30
  case neg =>
    have E : Hid (pb (dfP n o ∧ ∀ i, i < n → hdP (o i)) = false) := pb_f fun q => h30 q.1.1
    have d0 : (30 : Int) < (n : Int) := by omega
    go_enter Tryz.func74, Tryz.ntmps74
    go_wp2
    go_ret
    exact ⟨by rw [E.out]; rfl, Below.refl _ _⟩
  have d0 : ¬ (30 : Int) < (n : Int) := by omega
  go_enter Tryz.func74, Tryz.ntmps74
  go_wp2_with fail
  go_loopw [12] (fun q wr => ∃ k : Nat, k ≤ n ∧ q = .int .i64 k ∧ (∀ i, i < k → hdP (o i)) ∧ Below w.heap.size w wr) (fun q _ => n - (intOf q).toNat)
  case atStart => exact ⟨0, Nat.zero_le _, rfl, fun i hi => absurd hi (Nat.not_lt_zero _), Below.refl _ _⟩
  case round =>
    obtain ⟨k, hk, rfl, hA, hB⟩ := hrel
    have HA := hid hA
    have HB := hid hB
    clear hB hA
    by_cases hlt : k < n
    · have hlt' : (k : Int) < (n : Int) := by omega
      have k0 : (0 : Int) ≤ (k : Int) := by omega
      rcases (HH.out.below HB.out).2 with h00 | ⟨b, off, rfl, hbl, hc⟩
      · omega
      obtain ⟨c0, c1⟩ := hc k hlt
      have s1 := (HS.out k hlt).2
      have EV : Hid (o k = ⟨(o k).nm, (o k).vl⟩) := rfl
      obtain ⟨X0, hX0⟩ : ∃ v, v = (o k).nm := ⟨_, rfl⟩
      obtain ⟨X1, hX1⟩ : ∃ v, v = (o k).vl := ⟨_, rfl⟩
      rw [← hX0, ← hX1] at EV
      rw [← hX0] at c0
      rw [← hX1] at c1 s1
      clear hc hX0 hX1
      have K := fun wx => hid (iHd X0 X1 s1 wx)
      by_cases hf : hdP (o k)
      · rw [pb_t (by rw [← EV.out]; exact hf)] at K
        have N : Hid (∀ i, i < k + 1 → hdP (o i)) := fun i hi => by
          by_cases e : i = k
          · subst e; exact hf
          · exact HA.out i (by omega)
        clear hf
        go_wp2_with fail
        refine (K _).out.mono ?_
        rintro e w2 ⟨rfl, hb2⟩
        have B2 : Hid (Below w.heap.size w w2) := (HB.out.alloc HB.out.size _).trans (hb2.mono (Nat.le_trans HB.out.size (by simp)))
        clear hb2 HB c0 c1
        go_wp2
        go_roundw
        case rel => exact ⟨k + 1, by omega, by go_num, N.out, B2.out⟩
        case measure => simp [intOf]; omega
      · rw [pb_f (by rw [← EV.out]; exact hf)] at K
        have E : Hid (pb (dfP n o ∧ ∀ i, i < n → hdP (o i)) = false) := pb_f fun q => hf (q.2 k hlt)
        clear hf
        go_wp2_with fail
        refine (K _).out.mono ?_
        rintro e w2 ⟨rfl, hb2⟩
        have B2 : Hid (Below w.heap.size w w2) := (HB.out.alloc HB.out.size _).trans (hb2.mono (Nat.le_trans HB.out.size (by simp)))
        clear hb2 HB c0 c1
        go_wp2
        go_ret
        exact ⟨by rw [E.out]; rfl, B2.out⟩
    · have hkn : k = n := by omega
      subst hkn
      have KP := hid (iPlaces a k cap o hn (fun i hi => (HS.out i hi).1) wr (HH.out.below HB.out))
      have E : Hid (((Maps.size (plD o k) : Int) == (k : Int)) = pb (dfP k o ∧ ∀ i, i < k → hdP (o i))) := by
        show _ = _
        by_cases q : Maps.size (plD o k) = k
        · rw [pb_t ⟨⟨h30, (plD_size o k).1 q⟩, HA.out⟩]
          simp [q]
        · rw [pb_f fun h => q ((plD_size o k).2 h.1.2)]
          simp
          omega
      generalize hZ : Maps.size (plD o k) = Z at E
      have HZ := hid hZ
      clear hZ
      go_wp2_with fail
      refine KP.out.mono ?_
      rintro e w2 ⟨b, rfl, hM, hb, hb2⟩
      have B2 : Hid (Below w.heap.size w w2) := HB.out.trans (hb2.mono HB.out.size)
      clear hb2 HB hb
      have hln := hM.len Tryz.underlying116 3
      rw [HZ.out] at hln
      clear hM
      go_wp2
      go_ret
      exact ⟨by rw [← E.out]; rfl, B2.out⟩
set_option maxRecDepth 20000 in
set_option maxHeartbeats 4000000 in
theorem iRqF (r : Rq) (hb : RqB r 1048576) (w : World) (h : RqIn w r) :
    Calls Tryz.prog 38 #[r.v] w fun e w' => e = .returned (.int .i64 (rqV r)) ∧ Below w.heap.size w w' := by
  have HV : Hid (∀ q : Bool, q = pb (rqP r) → rqV r = if q then 0 else 1) := fun q hq => by rw [hq]; rfl
  have E : Hid (rqP r ↔ mtP r.mt ∧ ptP r.pt ∧ r.bd.size ≤ 100000 ∧ (dfP r.qs.n r.qs.o ∧ ∀ i, i < r.qs.n → qyP (r.qs.o i)) ∧ (dfP r.hs.n r.hs.o ∧ ∀ i, i < r.hs.n → hdP (r.hs.o i))) := by
    show _ ↔ _
    unfold rqP
    constructor
    · rintro ⟨a, b, c, d, e, f, g⟩; exact ⟨a, b, e, ⟨c, f⟩, d, g⟩
    · rintro ⟨a, b, e, ⟨c, f⟩, d, g⟩; exact ⟨a, b, c, d, e, f, g⟩
  have MT : Hid (mtP r.mt ↔ ofP 1 10 mtC r.mt) := Iff.rfl
  obtain ⟨mt, pt, ⟨a1, n1, c1, o1⟩, ⟨a2, n2, c2, o2⟩, bd⟩ := r
  dsimp only at E MT
  have H1 := h.qs
  have H2 := h.hs
  have HB1 := hb.qs
  have HB2 := hb.hs
  dsimp only at H1 H2
  have J0 := Jn.box w 25 #[.string mt, .string pt, .slice a1 n1 c1, .slice a2 n2 c2, .string bd]
  obtain ⟨W0, hW0⟩ : ∃ W, W = w.alloc (.cells #[.string mt, .string pt, .slice a1 n1 c1, .slice a2 n2 c2, .string bd] 25) := ⟨_, rfl⟩
  rw [← hW0] at J0
  have K1 := fun wx => hid (iOfC 1 10 1 10 rfl rfl mt wx)
  have K2 := fun wx => hid (iPath pt wx)
  have K3 := fun wx => hid (iTooLong bd wx)
  have K4 := fun wx hx => hid (iPairsQ a1 n1 c1 o1 HB1.1 HB1.2 wx hx)
  have K5 := fun wx hx => hid (iPairsH a2 n2 c2 o2 HB2.1 HB2.2 wx hx)
  have HQ := hid H1
  have HX := hid H2
  clear h hb H1 H2 HB1 HB2
  show Calls Tryz.prog 38 #[.agg #[.string mt, .string pt, .slice a1 n1 c1, .slice a2 n2 c2, .string bd]] w _
  by_cases q1 : ofP 1 10 mtC mt
  case neg =>
    have N := hid (rqV_f fun q => q1 (MT.out.1 (E.out.1 q).1))
    rw [pb_f q1] at K1
    clear q1
    go_enter Tryz.func38, Tryz.ntmps38
    go_wp2_with fail
    rw [← hW0]
    clear hW0
    refine (K1 _).out.mono ?_
    rintro e w1 ⟨rfl, hb1⟩
    have J1 := Jn.next hb1 J0
    clear hb1 J0
    go_wp2
    go_ret
    exact ⟨by rw [N.out]; rfl, J1.out.2⟩
  rw [pb_t q1] at K1
  by_cases q2 : ptP pt
  case neg =>
    have N := hid (rqV_f fun q => q2 (E.out.1 q).2.1)
    rw [pb_f q2] at K2
    clear q1 q2
    go_enter Tryz.func38, Tryz.ntmps38
    go_wp2_with fail
    rw [← hW0]
    clear hW0
    refine (K1 _).out.mono ?_
    rintro e w1 ⟨rfl, hb1⟩
    have J1 := Jn.next hb1 J0
    have x1 : w1.cell? ⟨w.heap.size, 1, none⟩ = some (.string pt) := J1.out.1.cell 1
    clear hb1 J0
    go_wp2_with fail
    refine (K2 _).out.mono ?_
    rintro e w2 ⟨rfl, hw⟩
    obtain rfl := hw.symm
    go_wp2
    go_ret
    exact ⟨by rw [N.out]; rfl, J1.out.2⟩
  rw [pb_t q2] at K2
  by_cases q3 : bd.size ≤ 100000
  case neg =>
    have N := hid (rqV_f fun q => q3 (E.out.1 q).2.2.1)
    rw [decide_eq_true (show (100000 : Int) < (bd.size : Int) by omega)] at K3
    clear q1 q2 q3
    go_enter Tryz.func38, Tryz.ntmps38
    go_wp2_with fail
    rw [← hW0]
    clear hW0
    refine (K1 _).out.mono ?_
    rintro e w1 ⟨rfl, hb1⟩
    have J1 := Jn.next hb1 J0
    have x1 : w1.cell? ⟨w.heap.size, 1, none⟩ = some (.string pt) := J1.out.1.cell 1
    have x4 : w1.cell? ⟨w.heap.size, 4, none⟩ = some (.string bd) := J1.out.1.cell 4
    clear hb1 J0
    go_wp2_with fail
    refine (K2 _).out.mono ?_
    rintro e w2 ⟨rfl, hw⟩
    obtain rfl := hw.symm
    go_wp2_with fail
    refine (K3 _).out.mono ?_
    rintro e w2 ⟨rfl, hw⟩
    obtain rfl := hw.symm
    go_wp2
    go_ret
    exact ⟨by rw [N.out]; rfl, J1.out.2⟩
  rw [decide_eq_false (show ¬ (100000 : Int) < (bd.size : Int) by omega)] at K3
  by_cases q4 : dfP n1 o1 ∧ ∀ i, i < n1 → qyP (o1 i)
  case neg =>
    have N := hid (rqV_f fun q => q4 (E.out.1 q).2.2.2.1)
    rw [pb_f q4] at K4
    clear q1 q2 q3 q4
    go_enter Tryz.func38, Tryz.ntmps38
    go_wp2_with fail
    rw [← hW0]
    clear hW0
    refine (K1 _).out.mono ?_
    rintro e w1 ⟨rfl, hb1⟩
    have J1 := Jn.next hb1 J0
    have x1 : w1.cell? ⟨w.heap.size, 1, none⟩ = some (.string pt) := J1.out.1.cell 1
    have x4 : w1.cell? ⟨w.heap.size, 4, none⟩ = some (.string bd) := J1.out.1.cell 4
    have x2 : w1.cell? ⟨w.heap.size, 2, none⟩ = some (.slice a1 n1 c1) := J1.out.1.cell 2
    clear hb1 J0
    go_wp2_with fail
    refine (K2 _).out.mono ?_
    rintro e w2 ⟨rfl, hw⟩
    obtain rfl := hw.symm
    go_wp2_with fail
    refine (K3 _).out.mono ?_
    rintro e w2 ⟨rfl, hw⟩
    obtain rfl := hw.symm
    go_wp2_with fail
    refine (K4 _ (HQ.out.below J1.out.2)).out.mono ?_
    rintro e w2 ⟨rfl, hb2⟩
    have J2 := Jn.next hb2 J1
    clear hb2 x1 x4 x2 J1
    go_wp2
    go_ret
    exact ⟨by rw [N.out]; rfl, J2.out.2⟩
  rw [pb_t q4] at K4
  have N : Hid (rqV ⟨mt, pt, ⟨a1, n1, c1, o1⟩, ⟨a2, n2, c2, o2⟩, bd⟩ = if pb (dfP n2 o2 ∧ ∀ i, i < n2 → hdP (o2 i)) then 0 else 1) := HV.out _ (pb_congr ⟨fun q => E.out.2 ⟨MT.out.2 q1, q2, q3, q4, q⟩, fun q => (E.out.1 q).2.2.2.2⟩)
  clear q1 q2 q3 q4
  generalize pb (dfP n2 o2 ∧ ∀ i, i < n2 → hdP (o2 i)) = V at N K5
  go_enter Tryz.func38, Tryz.ntmps38
  go_wp2_with fail
  rw [← hW0]
  clear hW0
  refine (K1 _).out.mono ?_
  rintro e w1 ⟨rfl, hb1⟩
  have J1 := Jn.next hb1 J0
  have x1 : w1.cell? ⟨w.heap.size, 1, none⟩ = some (.string pt) := J1.out.1.cell 1
  have x4 : w1.cell? ⟨w.heap.size, 4, none⟩ = some (.string bd) := J1.out.1.cell 4
  have x2 : w1.cell? ⟨w.heap.size, 2, none⟩ = some (.slice a1 n1 c1) := J1.out.1.cell 2
  clear hb1 J0
  go_wp2_with fail
  refine (K2 _).out.mono ?_
  rintro e w2 ⟨rfl, hw⟩
  obtain rfl := hw.symm
  go_wp2_with fail
  refine (K3 _).out.mono ?_
  rintro e w2 ⟨rfl, hw⟩
  obtain rfl := hw.symm
  go_wp2_with fail
  refine (K4 _ (HQ.out.below J1.out.2)).out.mono ?_
  rintro e w2 ⟨rfl, hb2⟩
  have J2 := Jn.next hb2 J1
  clear hb2 x1 x4 x2 J1
  have x3 : w2.cell? ⟨w.heap.size, 3, none⟩ = some (.slice a2 n2 c2) := J2.out.1.cell 3
  go_wp2_with fail
  refine (K5 _ (HX.out.below J2.out.2)).out.mono ?_
  rintro e w3 ⟨rfl, hb3⟩
  have J3 := Jn.next hb3 J2
  clear hb3 x3 J2
  cases V
  all_goals
    go_wp2
    go_ret
    exact ⟨by rw [N.out]; rfl, J3.out.2⟩
end Go.Proofs.YtkppgjndmbbobaaGreatDoor
