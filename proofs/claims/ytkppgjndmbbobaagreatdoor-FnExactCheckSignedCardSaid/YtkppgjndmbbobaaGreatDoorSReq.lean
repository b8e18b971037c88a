import Derived.Test.YtkppgjndmbbobaaGreatDoorReqM
namespace Go.Proofs.YtkppgjndmbbobaaGreatDoor
open Go.RowKit
/-! The specification's RequestFault. -/
set_option maxRecDepth 20000 in
set_option maxHeartbeats 4000000 in
theorem sDiff (a : Option Addr) (n cap : Nat) (o : Nat → Hp) (hl : n ≤ 1048576) (w : World) (h : Hps w a n cap o) :
    Calls Tryz.prog 87 #[.slice a n cap] w fun e w' => e = .returned (.bool (pb (dfP n o))) ∧ ∃ m, w' = w.drewN m := by
  have HH := hid h.2
  clear h
  go_enter Tryz.func87, Tryz.ntmps87
  go_wp2_with fail
  go_loopw [3] (fun v wr => ∃ k : Nat, k ≤ n ∧ v = .int .i64 (k : Int) ∧ (∀ i, i < k → ∀ j, j < i → (o i).nm ≠ (o j).nm) ∧ ∃ m, wr = w.drewN m) (fun v _ => n - (intOf v).toNat)
  case atStart => exact ⟨0, Nat.zero_le _, rfl, fun i hi => absurd hi (Nat.not_lt_zero _), 0, rfl⟩
  case round =>
    obtain ⟨k, hk, rfl, hr, m, rfl⟩ := hrel
    have HR := hid hr
    clear hr
    by_cases hlt : k < n
    · have d3 : (k : Int) < (n : Int) := by omega
      have k0 : (0 : Int) ≤ (k : Int) := by omega
      go_wp2_with fail
      go_loopw [4] (fun v wr => ∃ j : Nat, j ≤ k ∧ v = .int .i64 (j : Int) ∧ (∀ i, i < j → (o k).nm ≠ (o i).nm) ∧ ∃ m, wr = w.drewN m) (fun v _ => k - (intOf v).toNat)
      case atStart => exact ⟨0, Nat.zero_le _, rfl, fun i hi => absurd hi (Nat.not_lt_zero _), m, rfl⟩
      case round =>
        obtain ⟨j, hj, rfl, hq, m2, rfl⟩ := hrel
        have HQ := hid hq
        clear hq
        by_cases hjk : j < k
        · have d4 : (j : Int) < (k : Int) := by omega
          have d5 : (j : Int) < (n : Int) := by omega
          have j0 : (0 : Int) ≤ (j : Int) := by omega
          rcases HH.out with q0 | ⟨b, off, rfl, hbl, hc⟩
          · omega
          have c0 := (hc k hlt).1
          have c1 := (hc j (by omega)).1
          clear hc
          obtain ⟨x, hx⟩ : ∃ x, (o k).nm = x := ⟨_, rfl⟩
          obtain ⟨y, hy⟩ : ∃ y, (o j).nm = y := ⟨_, rfl⟩
          rw [hx] at c0
          rw [hy] at c1
          have HX := hid hx
          have HY := hid hy
          clear hx hy
          by_cases e : x = y
          · have b1 : (x.toList == y.toList) = true := (ba_beqE x y).trans (decide_eq_true e)
            have E : Hid (pb (dfP n o) = false) := pb_f fun hh => hh.2 k hlt j hjk (by rw [HX.out, HY.out]; exact e)
            clear e
            go_wp2_with fail
            go_quiet (fail)
            go_wp2
            go_ret
            exact ⟨by rw [E.out]; rfl, _, World.drewN_drewN _ _ _⟩
          · have b1 : (x.toList == y.toList) = false := (ba_beqE x y).trans (decide_eq_false e)
            have N : Hid (∀ i, i < j + 1 → (o k).nm ≠ (o i).nm) := fun i hi => by
              by_cases q : i = j
              · rw [q, HX.out, HY.out]; exact e
              · exact HQ.out i (by omega)
            clear e
            go_wp2_with fail
            go_quiet (fail)
            go_wp2
            go_roundw
            case rel => exact ⟨j + 1, by omega, by go_num, N.out, _, rfl⟩
            case measure => simp [intOf]; omega
        · have d4 : ¬ (j : Int) < (k : Int) := by omega
          have N : Hid (∀ i, i < k + 1 → ∀ j, j < i → (o i).nm ≠ (o j).nm) := fun i hi q hq => by
            by_cases e : i = k
            · subst e; exact HQ.out q (by omega)
            · exact HR.out i (by omega) q hq
          go_wp2
          go_roundw
          case rel => exact ⟨k + 1, by omega, by go_num, N.out, _, rfl⟩
          case measure => simp [intOf]; omega
    · have d3 : ¬ (k : Int) < (n : Int) := by omega
      have N : Hid (∀ i, i < n → ∀ j, j < i → (o i).nm ≠ (o j).nm) := fun i hi q hq => HR.out i (by omega) q hq
      by_cases h30 : n ≤ 30
      · have d4 : (n : Int) ≤ 30 := by omega
        have E : Hid (pb (dfP n o) = true) := pb_t ⟨h30, N.out⟩
        go_wp2
        go_ret
        exact ⟨by rw [E.out]; rfl, _, rfl⟩
      · have d4 : ¬ (n : Int) ≤ 30 := by omega
        have E : Hid (pb (dfP n o) = false) := pb_f fun hh => h30 hh.1
        go_wp2
        go_ret
        exact ⟨by rw [E.out]; rfl, _, rfl⟩
theorem Hps.drewN {w : World} {a : Option Addr} {n cap : Nat} {o : Nat → Hp} (h : Hps w a n cap o) (m : Nat) : Hps (w.drewN m) a n cap o := h
set_option maxRecDepth 20000 in
set_option maxHeartbeats 4000000 in
theorem sRqF (r : Rq) (hb : RqB r 1048576) (w : World) (h : RqIn w r) :
    Calls Tryz.prog 46 #[.agg #[.string r.mt, .string r.pt, .slice r.qs.ad r.qs.n r.qs.cap, .slice r.hs.ad r.hs.n r.hs.cap, .string r.bd]] w fun e w' => e = .returned (.int .i64 (rqV r)) ∧ Below w.heap.size w w' := by
  obtain ⟨mt, pt, ⟨a1, n1, c1, o1⟩, ⟨a2, n2, c2, o2⟩, bd⟩ := r
  dsimp only
  obtain ⟨W0, hW0⟩ : ∃ W, W = w.alloc (.cells #[.string mt, .string pt, .slice a1 n1 c1, .slice a2 n2 c2, .string bd] 25) := ⟨_, rfl⟩
  have A0 : Hid (RowAt W0 w.heap.size 25 #[.string mt, .string pt, .slice a1 n1 c1, .slice a2 n2 c2, .string bd]) := by rw [hW0]; exact RowAt.new _ _ _
  have B0 : Hid (Below w.heap.size w W0) := by rw [hW0]; exact balHp (Below.refl _ _) _
  have HQ := hid (h.qs.below B0.out)
  have HN := hid (h.hs.below B0.out)
  have M1 := hid (sMeth mt hb.mt W0)
  have D1 := hid (sDiff a1 n1 c1 o1 hb.qs.1 W0 HQ.out)
  have D2 := fun m => hid (sDiff a2 n2 c2 o2 hb.hs.1 (W0.drewN m) (HN.out.drewN m))
  have hp := hb.pt
  have hbd := hb.bd
  have hn1 := hb.qs.1
  have hn2 := hb.hs.1
  have SQ := hid hb.qs.2
  have SH := hid hb.hs.2
  dsimp only at hp hbd hn1 hn2 SQ SH HQ HN
  clear h hb
  have BAD : Hid (¬ rqP ⟨mt, pt, ⟨a1, n1, c1, o1⟩, ⟨a2, n2, c2, o2⟩, bd⟩ → rqV ⟨mt, pt, ⟨a1, n1, c1, o1⟩, ⟨a2, n2, c2, o2⟩, bd⟩ = 1) := rqV_f
  have GOOD : Hid (rqP ⟨mt, pt, ⟨a1, n1, c1, o1⟩, ⟨a2, n2, c2, o2⟩, bd⟩ → rqV ⟨mt, pt, ⟨a1, n1, c1, o1⟩, ⟨a2, n2, c2, o2⟩, bd⟩ = 0) := rqV_t
  obtain ⟨V, hV⟩ : ∃ V, V = rqV ⟨mt, pt, ⟨a1, n1, c1, o1⟩, ⟨a2, n2, c2, o2⟩, bd⟩ := ⟨_, rfl⟩
  rw [← hV] at BAD GOOD
  rw [← hV]
  clear hV
  have x0 := A0.out.cell 0
  have x1 := A0.out.cell 1
  have x2 := A0.out.cell 2
  have x3 := A0.out.cell 3
  have x4 := A0.out.cell 4
  go_enter Tryz.func46, Tryz.ntmps46
  go_wp2_with fail
  rw [← hW0]
  clear hW0
  refine M1.out.mono ?_
  rintro e w1 ⟨rfl, hw1⟩
  obtain rfl := hw1.symm
  by_cases p1 : mtP mt
  case neg =>
    have E : Hid (V = 1) := BAD.out fun hh => p1 hh.1
    rw [pb_f p1]
    go_wp2
    go_ret
    exact ⟨by rw [E.out]; rfl, B0.out⟩
  rw [pb_t p1]
  by_cases p2 : 1 ≤ pt.size
  case neg =>
    have E : Hid (V = 1) := BAD.out fun hh => p2 hh.2.1.1
    have d1 : (pt.size : Int) < 1 := by omega
    go_wp2
    go_ret
    exact ⟨by rw [E.out]; rfl, B0.out⟩
  have d1 : ¬ (pt.size : Int) < 1 := by omega
  by_cases p3 : pt.size ≤ 1000
  case neg =>
    have E : Hid (V = 1) := BAD.out fun hh => p3 hh.2.1.2.1
    have d2 : (1000 : Int) < (pt.size : Int) := by omega
    go_wp2
    go_ret
    exact ⟨by rw [E.out]; rfl, B0.out⟩
  have d2 : ¬ (1000 : Int) < (pt.size : Int) := by omega
  have i0 : (0 : Int) < (pt.size : Int) := by omega
  by_cases p4 : (pt[0]'(by omega)).toNat = 47
  case neg =>
    have E : Hid (V = 1) := BAD.out fun hh => p4 (by rw [hh.2.1.2.2]; rfl)
    have d3 : (((pt[0]'(by omega)).toNat : Int) != 47) = true := by rw [bne_iff_ne]; omega
    go_wp2
    go_ret
    exact ⟨by rw [E.out]; rfl, B0.out⟩
  have d3 : (((pt[0]'(by omega)).toNat : Int) != 47) = false := by rw [bne_eq_false_iff_eq]; omega
  by_cases p5 : n1 ≤ 30
  case neg =>
    have E : Hid (V = 1) := BAD.out fun hh => p5 hh.2.2.1.1
    have d4 : (30 : Int) < (n1 : Int) := by omega
    go_wp2
    go_ret
    exact ⟨by rw [E.out]; rfl, B0.out⟩
  have d4 : ¬ (30 : Int) < (n1 : Int) := by omega
  by_cases p6 : n2 ≤ 30
  case neg =>
    have E : Hid (V = 1) := BAD.out fun hh => p6 hh.2.2.2.1.1
    have d5 : (30 : Int) < (n2 : Int) := by omega
    go_wp2
    go_ret
    exact ⟨by rw [E.out]; rfl, B0.out⟩
  have d5 : ¬ (30 : Int) < (n2 : Int) := by omega
  go_wp2_with fail
  refine D1.out.mono ?_
  rintro e w1 ⟨rfl, m1, rfl⟩
  by_cases p7 : dfP n1 o1
  case neg =>
    have E : Hid (V = 1) := BAD.out fun hh => p7 hh.2.2.1
    rw [pb_f p7]
    go_wp2
    go_ret
    exact ⟨by rw [E.out]; rfl, below_drewN B0.out _⟩
  rw [pb_t p7]
  go_wp2_with fail
  refine (D2 _).out.mono ?_
  rintro e w1 ⟨rfl, m2, rfl⟩
  by_cases p8 : dfP n2 o2
  case neg =>
    have E : Hid (V = 1) := BAD.out fun hh => p8 hh.2.2.2.1
    rw [pb_f p8]
    go_wp2
    go_ret
    exact ⟨by rw [E.out]; rfl, below_drewN B0.out _⟩
  rw [pb_t p8]
  obtain ⟨W1, hW1⟩ : ∃ W, W = W0.drewN (m1 + m2) := ⟨_, rfl⟩
  have A1 : Hid (RowAt W1 w.heap.size 25 #[.string mt, .string pt, .slice a1 n1 c1, .slice a2 n2 c2, .string bd]) := by rw [hW1]; exact A0.out
  have B1 : Hid (Below w.heap.size w W1) := by rw [hW1]; exact below_drewN B0.out _
  have HQ1 : Hid (Hps W1 a1 n1 c1 o1) := by rw [hW1]; exact HQ.out
  have HN1 : Hid (Hps W1 a2 n2 c2 o2) := by rw [hW1]; exact HN.out
  rw [World.drewN_drewN, ← hW1]
  clear hW1 x0 x1 x2 x3 x4 A0 B0 HQ HN D1 D2 M1
  have x2 := A1.out.cell 2
  have x3 := A1.out.cell 3
  have x4 := A1.out.cell 4
  have P0 : Hid (mtP mt ∧ ptP pt ∧ dfP n1 o1 ∧ dfP n2 o2) := ⟨p1, ⟨p2, p3, UInt8.toNat_inj.1 p4⟩, p7, p8⟩
  clear p1 p7 p8 p4
  by_cases p9 : bd.size ≤ 100000
  case neg =>
    have E : Hid (V = 1) := BAD.out fun hh => p9 hh.2.2.2.2.1
    have d6 : (100000 : Int) < (bd.size : Int) := by omega
    go_wp2
    go_ret
    exact ⟨by rw [E.out]; rfl, B1.out⟩
  have d6 : ¬ (100000 : Int) < (bd.size : Int) := by omega
  go_wp2_with fail
  clear d1 d2 d3 d4 d5 d6
  go_loopw [3] (fun v wr => ∃ k : Nat, k ≤ n1 ∧ v = .int .i64 (k : Int) ∧ (∀ i, i < k → qyP (o1 i)) ∧ wr = W1) (fun v _ => n1 - (intOf v).toNat)
  case atStart => exact ⟨0, Nat.zero_le _, rfl, fun i hi => absurd hi (Nat.not_lt_zero _), rfl⟩
  case round =>
    obtain ⟨k, hk, rfl, hr, hwr⟩ := hrel
    obtain rfl := hwr.symm
    have HR := hid hr
    clear hr
    by_cases hlt : k < n1
    · have e3 : (k : Int) < (n1 : Int) := by omega
      have k0 : (0 : Int) ≤ (k : Int) := by omega
      rcases HQ1.out.2 with q0 | ⟨b, off, rfl, hbl, hc⟩
      · omega
      have c0 := (hc k hlt).1
      have c1' := (hc k hlt).2
      clear hc
      have s0 := (SQ.out k hlt).1
      have s1 := (SQ.out k hlt).2
      obtain ⟨Y, hY⟩ : ∃ Y, o1 k = Y := ⟨_, rfl⟩
      rw [hY] at c0 c1' s0 s1
      have HY := hid hY
      clear hY
      obtain ⟨x, y⟩ := Y
      dsimp only at c0 c1' s0 s1
      by_cases g1 : 1 ≤ x.size
      case neg =>
        have E : Hid (V = 1) := BAD.out fun hh => g1 (by have := (hh.2.2.2.2.2.1 k hlt).1; dsimp only at this; rw [HY.out] at this; exact this)
        have f1 : (x.size : Int) < 1 := by omega
        go_wp2
        go_ret
        exact ⟨by rw [E.out]; rfl, B1.out⟩
      have f1 : ¬ (x.size : Int) < 1 := by omega
      by_cases g2 : x.size ≤ 100
      case neg =>
        have E : Hid (V = 1) := BAD.out fun hh => g2 (by have := (hh.2.2.2.2.2.1 k hlt).2.1; dsimp only at this; rw [HY.out] at this; exact this)
        have f2 : (100 : Int) < (x.size : Int) := by omega
        go_wp2
        go_ret
        exact ⟨by rw [E.out]; rfl, B1.out⟩
      have f2 : ¬ (100 : Int) < (x.size : Int) := by omega
      by_cases g3 : y.size ≤ 1000
      case neg =>
        have E : Hid (V = 1) := BAD.out fun hh => g3 (by have := (hh.2.2.2.2.2.1 k hlt).2.2; dsimp only at this; rw [HY.out] at this; exact this)
        have f3 : (1000 : Int) < (y.size : Int) := by omega
        go_wp2
        go_ret
        exact ⟨by rw [E.out]; rfl, B1.out⟩
      have f3 : ¬ (1000 : Int) < (y.size : Int) := by omega
      have N : Hid (∀ i, i < k + 1 → qyP (o1 i)) := fun i hi => by
        by_cases q : i = k
        · rw [q, HY.out]; exact ⟨g1, g2, g3⟩
        · exact HR.out i (by omega)
      go_wp2
      go_roundw
      case rel => exact ⟨k + 1, by omega, by go_num, N.out, trivial⟩
      case measure => simp [intOf]; omega
    have e3 : ¬ (k : Int) < (n1 : Int) := by omega
    have QQ : Hid (∀ i, i < n1 → qyP (o1 i)) := fun i hi => HR.out i (by omega)
    clear HR
    go_wp2_with fail
    go_loopw [4] (fun v wr => ∃ k : Nat, k ≤ n2 ∧ v = .int .i64 (k : Int) ∧ (∀ i, i < k → hdP (o2 i)) ∧ wr = W1) (fun v _ => n2 - (intOf v).toNat)
    case atStart => exact ⟨0, Nat.zero_le _, rfl, fun i hi => absurd hi (Nat.not_lt_zero _), rfl⟩
    case round =>
      obtain ⟨j, hj, rfl, hr, hwr⟩ := hrel
      obtain rfl := hwr.symm
      have HR := hid hr
      clear hr
      by_cases hlt : j < n2
      · have e4 : (j : Int) < (n2 : Int) := by omega
        have j0 : (0 : Int) ≤ (j : Int) := by omega
        rcases HN1.out.2 with q0 | ⟨b, off, rfl, hbl, hc⟩
        · omega
        have c0 := (hc j hlt).1
        have c1' := (hc j hlt).2
        clear hc
        have s0 := (SH.out j hlt).1
        have s1 := (SH.out j hlt).2
        obtain ⟨Y, hY⟩ : ∃ Y, o2 j = Y := ⟨_, rfl⟩
        rw [hY] at c0 c1' s0 s1
        have HY := hid hY
        clear hY
        obtain ⟨x, y⟩ := Y
        dsimp only at c0 c1' s0 s1
        go_wp2_with fail
        refine (sHName x s0 _).mono ?_
        rintro e w2 ⟨rfl, hw2⟩
        obtain rfl := hw2.symm
        by_cases g1 : hnP x
        case neg =>
          have E : Hid (V = 1) := BAD.out fun hh => g1 (by have := (hh.2.2.2.2.2.2 j hlt).1; dsimp only at this; rw [HY.out] at this; exact this)
          rw [pb_f g1]
          go_wp2
          go_ret
          exact ⟨by rw [E.out]; rfl, B1.out⟩
        rw [pb_t g1]
        go_wp2_with fail
        refine (sHVal y s1 _).mono ?_
        rintro e w2 ⟨rfl, hw2⟩
        obtain rfl := hw2.symm
        by_cases g2 : hvP y
        case neg =>
          have E : Hid (V = 1) := BAD.out fun hh => g2 (by have := (hh.2.2.2.2.2.2 j hlt).2; dsimp only at this; rw [HY.out] at this; exact this)
          rw [pb_f g2]
          go_wp2
          go_ret
          exact ⟨by rw [E.out]; rfl, B1.out⟩
        rw [pb_t g2]
        have N : Hid (∀ i, i < j + 1 → hdP (o2 i)) := fun i hi => by
          by_cases q : i = j
          · rw [q, HY.out]; exact ⟨g1, g2⟩
          · exact HR.out i (by omega)
        clear g1 g2
        go_wp2
        go_roundw
        case rel => exact ⟨j + 1, by omega, by go_num, N.out, trivial⟩
        case measure => simp [intOf]; omega
      have e4 : ¬ (j : Int) < (n2 : Int) := by omega
      have E : Hid (V = 0) := GOOD.out ⟨P0.out.1, P0.out.2.1, P0.out.2.2.1, P0.out.2.2.2, p9, QQ.out, fun i hi => HR.out i (by dsimp only at hi; omega)⟩
      go_wp2
      go_ret
      exact ⟨by rw [E.out]; rfl, B1.out⟩
end Go.Proofs.YtkppgjndmbbobaaGreatDoor
