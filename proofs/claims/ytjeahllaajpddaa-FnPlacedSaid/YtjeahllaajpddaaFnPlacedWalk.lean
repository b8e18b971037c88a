import Derived.Test.YtjeahllaajpddaaGrMath
import Derived.Test.YtjeahllaajpddaaLwI
import Derived.Test.YtjeahllaajpddaaDrawPl
import Derived.BigQuiet
import Derived.Deep.RegionHeld3
namespace Go.Proofs.Ytjeahllaajpddaa
open Go.RowKit
theorem Prs.drewN {w : World} {a : Option Addr} {len cap : Nat} {x y : Nat → Int} (h : Prs w a len cap x y) (n : Nat) : Prs (w.drewN n) a len cap x y := h
theorem Prs.alloc {w : World} {a : Option Addr} {len cap : Nat} {x y : Nat → Int} (h : Prs w a len cap x y) (o : Obj) : Prs (w.alloc o) a len cap x y := h.below ((Below.refl _ w).alloc (Nat.le_refl _) _)
theorem IntsP.drewN {k : IntKind} {w : World} {a : Option Addr} {len cap : Nat} {xs : List Int} (h : Ints k w a len cap xs) (n : Nat) : Ints k (w.drewN n) a len cap xs := h
/-- what stands while the places are held against the promise -/
structure PlW (w W : World) (b6 : Nat) (C : Int) (va : Option Addr) (n vc : Nat) (x y : Nat → Int) (a1 : Option Addr) (c1 : Nat) (us : List Int) : Prop where
  L : Below w.heap.size w W
  R : RowAt W b6 34 #[.int .i64 C, .slice a1 us.length c1]
  I : Ints .i64 W a1 us.length c1 us
  N : Prs W va n vc x y
theorem PlW.below {w W W' : World} {b6 : Nat} {C : Int} {va : Option Addr} {n vc : Nat} {x y : Nat → Int} {a1 : Option Addr} {c1 : Nat} {us : List Int} (h : PlW w W b6 C va n vc x y a1 c1 us) (hb : Below W.heap.size W W') : PlW w W' b6 C va n vc x y a1 c1 us :=
  ⟨h.L.trans (hb.mono h.L.size), h.R.below hb h.R.lt, h.I.below hb, h.N.below hb⟩
theorem PlW.drewN {w W : World} {b6 : Nat} {C : Int} {va : Option Addr} {n vc : Nat} {x y : Nat → Int} {a1 : Option Addr} {c1 : Nat} {us : List Int} (h : PlW w W b6 C va n vc x y a1 c1 us) (k : Nat) : PlW w (W.drewN k) b6 C va n vc x y a1 c1 us :=
  ⟨below_drewN' h.L k, h.R.drewN k, IntsP.drewN h.I k, h.N.drewN k⟩
theorem PlW.drew {w W : World} {b6 : Nat} {C : Int} {va : Option Addr} {n vc : Nat} {x y : Nat → Int} {a1 : Option Addr} {c1 : Nat} {us : List Int} (h : PlW w W b6 C va n vc x y a1 c1 us) : PlW w W.drew b6 C va n vc x y a1 c1 us :=
  ⟨h.L.drew, h.R, h.I, h.N⟩
set_option maxRecDepth 20000 in
set_option maxHeartbeats 4000000 in
theorem fnPlaced_small (a : Option Addr) (len cap : Nat) (w : World) (hc : CodeOk w a len) (hlc : len ≤ cap) (hl : len ≤ 1048576) :
    Calls Try.prog 4 #[.slice a len cap] w fun e w' => e = .returned (.bool true) ∧ Below w.heap.size w w' := by
  have d0 : decide ((1048576 : Int) < (len : Int)) = false := by simp; omega
  go_enter Try.func4, Try.ntmps4
  go_wp2_with fail
  refine (drawPl_all w a len cap hc hlc).mono ?_
  rintro e w1 ⟨⟨l, va, vc, key, m, rfl, hln, hks, ho⟩, hb1⟩
  obtain ⟨n, hn⟩ : ∃ n, n = l.length := ⟨_, rfl⟩
  have N1 := hid (Prs.of_own ho)
  rw [← hn] at N1 hln ⊢
  obtain ⟨x, hx⟩ : ∃ x : Nat → Int, x = fun i => (l.getD i (0, 0)).1 := ⟨_, rfl⟩
  obtain ⟨y, hy⟩ : ∃ y : Nat → Int, y = fun i => (l.getD i (0, 0)).2 := ⟨_, rfl⟩
  rw [← hx, ← hy] at N1
  have L1 := hid hb1
  clear hn hx hy ho hb1
  have IP := fun W (h : Prs W va n vc x y) => hid (iAnsPl va n vc x y (by omega) key (by omega) m W h)
  have SP := fun W (h : Prs W va n vc x y) => hid (sAnsPl va n vc x y (by omega) key (by omega) m W h)
  have DS := fun W disk (h : Prs W va n vc x y) => hid (iDisk va n vc x y (by omega) key (by omega) disk W h)
  have PP := hid (plL_props key n x y m)
  have u64 := plL_len key n x y m
  obtain ⟨C, hC⟩ : ∃ C, C = plC key n x y m := ⟨_, rfl⟩
  obtain ⟨us, hU⟩ : ∃ us, us = plL key n x y m := ⟨_, rfl⟩
  rw [← hU] at u64 PP
  rw [← hC, ← hU] at IP SP
  clear hC hU
  have IP1 := IP w1 N1.out
  clear IP
  go_wp2_with fail
  refine IP1.out.mono ?_
  rintro e w2 ⟨a1, c1, rfl, ho2, hb2⟩
  have L2 : Hid (Below w.heap.size w w2) := L1.out.trans (hb2.mono L1.out.size)
  have N2 := hid (N1.out.below hb2)
  have I2 := hid ho2.ints
  clear ho2 hb2 IP1 N1 L1
  obtain ⟨w3, hw3⟩ : ∃ v, v = w2.alloc (.cells #[.int .i64 C, .slice a1 us.length c1] 34) := ⟨_, rfl⟩
  have P3 : Hid (PlW w w3 w2.heap.size C va n vc x y a1 c1 us) := by
    rw [hw3]; exact ⟨L2.out.alloc L2.out.size _, RowAt.new _ _ _, I2.out.alloc _, N2.out.alloc _⟩
  have HW3 := hid hw3
  have SP1 := SP w3 P3.out.N
  clear hw3 SP L2 N2 I2
  go_wp2_with fail
  rw [← HW3.out]
  clear HW3
  refine SP1.out.mono ?_
  rintro e w4 ⟨a2, c2, rfl, ho4, hb4⟩
  have P4 := hid (P3.out.below hb4)
  have J4 := hid ho4.ints
  clear ho4 hb4 SP1 P3
  obtain ⟨w5, hw5⟩ : ∃ v, v = w4.alloc (.cells #[.int .i64 C, .slice a2 us.length c2] 34) := ⟨_, rfl⟩
  have P5 : Hid (PlW w w5 w2.heap.size C va n vc x y a1 c1 us) := by rw [hw5]; exact P4.out.below ((Below.refl _ w4).alloc (Nat.le_refl _) _)
  have J5 : Hid (Ints .i64 w5 a2 us.length c2 us) := by rw [hw5]; exact J4.out.alloc _
  have Q5 : Hid (RowAt w5 w4.heap.size 34 #[.int .i64 C, .slice a2 us.length c2]) := by rw [hw5]; exact RowAt.new _ _ _
  have HW5 := hid hw5
  have x0 := P5.out.R.cell 0
  have x1 := P5.out.R.cell 1
  have y0 := Q5.out.cell 0
  have y1 := Q5.out.cell 1
  rw [hw5] at x0 x1 y0 y1
  have dC : (C != C) = false := by simp
  clear hw5 P4 J4
  go_wp2_with fail
  rw [← HW5.out]
  clear HW5 x0 x1 y0 y1
  refine (lwInts_eq a1 us.length c1 a2 us.length c2 us w5 P5.out.I J5.out (by omega)).mono ?_
  rintro e w6 ⟨rfl, hb6⟩
  have P6 := hid (P5.out.below hb6)
  clear hb6 P5 J5 Q5
  go_wp2_with fail
  go_loopw [8] (fun q wr => ∃ i : Nat, i ≤ us.length ∧ q = .int .i64 (i : Int) ∧ PlW w wr w2.heap.size C va n vc x y a1 c1 us) (fun q _ => us.length - (intOf q).toNat)
  case atStart => exact ⟨0, Nat.zero_le _, rfl, P6.out⟩
  case round =>
    obtain ⟨i, hi, rfl, hP⟩ := hrel
    have HP := hid hP
    clear hP
    have r1 := HP.out.R.cell 1
    by_cases hlt : i < us.length
    · have hlt' : (i : Int) < ((us.length : Nat) : Int) := by omega
      have i0 : (0 : Int) ≤ (i : Int) := by omega
      obtain ⟨d, hd, hdn, hdy, hdk⟩ := PP.out i hlt
      rcases HP.out.I.2.2 with q0 | ⟨b1, o1, rfl, hb1, hc1⟩
      · omega
      rcases HP.out.N.2 with q0 | ⟨bn, on, rfl, hbn, hcn⟩
      · omega
      have ci := hc1 i hlt
      rw [hd] at ci
      obtain ⟨cx, cy⟩ := hcn d hdn
      have HCN := hid hcn
      have HC1 := hid hc1
      have HDK := hid hdk
      have HD := hid hd
      clear hc1 hcn hdk hd
      obtain ⟨X, hX⟩ : ∃ X, X = x d := ⟨_, rfl⟩
      obtain ⟨Y, hY⟩ : ∃ Y, Y = y d := ⟨_, rfl⟩
      rw [← hX] at cx
      rw [← hY] at cy hdy
      have HX := hid hX
      clear hX hY
      have d1 : decide (Y < 1) = false := by simp; omega
      have dn0 : (0 : Int) ≤ (d : Int) := by omega
      have dn1 : (d : Int) < (n : Int) := by omega
      go_upto_region 11 with fail
      go_cut [80] from 47 to 80 (fun c wx => c = .bool false ∧ PlW w wx w2.heap.size C (some ⟨bn, on, none⟩) n vc x y (some ⟨b1, o1, none⟩) c1 us)
      case first =>
        by_cases hi0 : 0 < i
        · have di : decide ((0 : Int) < (i : Int)) = true := by simp; omega
          obtain ⟨j, hj⟩ : ∃ j, i = j + 1 := ⟨i - 1, by omega⟩
          have HJ := hid hj
          obtain ⟨d', hd', hdn', hdy', _⟩ := PP.out j (by omega)
          have cj := HC1.out j (by omega)
          rw [hd'] at cj
          have ej : (i : Int) - 1 = (j : Int) := by omega
          have ejw : IntKind.i64.wrap ((i : Int) - 1) = (j : Int) := by rw [IntKind.wrap_i64]; omega
          have ejx : IntKind.i64.wrap (j : Int) = (j : Int) := by rw [IntKind.wrap_i64]; omega
          have j0 : (0 : Int) ≤ (j : Int) := by omega
          have j1 : (j : Int) < ((us.length : Nat) : Int) := by omega
          have hsc := (HDK.out j d' (by omega) hd').1
          obtain ⟨s1, hs1⟩ : ∃ s, s = scoreV key n x y (d' : Int) := ⟨_, rfl⟩
          obtain ⟨s2, hs2⟩ : ∃ s, s = scoreV key n x y (d : Int) := ⟨_, rfl⟩
          have D1 := fun W (h : Prs W (some ⟨bn, on, none⟩) n vc x y) => DS W (d' : Int) h
          have D2 := fun W (h : Prs W (some ⟨bn, on, none⟩) n vc x y) => DS W (d : Int) h
          rw [← hs1] at D1 hsc
          rw [← hs2] at D2 hsc
          have ds : decide (s1 < s2) = false := by simp; omega
          clear hs1 hs2 hd' DS hj hsc
          have K4 : ∀ W, Below wr.heap.size wr W → W.cell? ⟨w2.heap.size, 1, none⟩ = some (.slice (some ⟨b1, o1, none⟩) us.length c1) ∧ W.cell? ⟨b1, o1 + i, none⟩ = some (.int .i64 (d : Int)) ∧ W.cell? ⟨bn, on + d * 2 + 1, none⟩ = some (.int .i64 Y) ∧ W.cell? ⟨b1, o1 + j, none⟩ = some (.int .i64 (d' : Int)) := fun W hb => ⟨(hb.cell (p := ⟨w2.heap.size, 1, none⟩) HP.out.R.lt).trans r1, (hb.cell (p := ⟨b1, o1 + i, none⟩) hb1).trans ci, (hb.cell (p := ⟨bn, on + d * 2 + 1, none⟩) hbn).trans cy, (hb.cell (p := ⟨b1, o1 + j, none⟩) hb1).trans cj⟩
          have HK4 := hid K4
          clear K4
          go_region_held3 (fun wx => wx.cell? ⟨w2.heap.size, 1, none⟩ = some (.slice (some ⟨b1, o1, none⟩) us.length c1) ∧ wx.cell? ⟨b1, o1 + i, none⟩ = some (.int .i64 (d : Int)) ∧ wx.cell? ⟨bn, on + d * 2 + 1, none⟩ = some (.int .i64 Y) ∧ wx.cell? ⟨b1, o1 + j, none⟩ = some (.int .i64 (d' : Int))) ((first | (go_keep; done) | exact HK4.out _ BB | exact HK4.out _ AA)) ((first
            | (go_at_call_of 18 (Value.int IntKind.i64 (d' : Int)); refine (D1 _ (HP.out.drew.N)).out.mono ?_; rintro e w7 ⟨rfl, hb7⟩; have AA : Below wr.heap.size wr w7 := (Below.refl _ wr).drew.trans hb7)
            | (go_at_call_of 18 (Value.int IntKind.i64 (d : Int)); refine (D2 _ (HP.out.N.below AA)).out.mono ?_; rintro e w8 ⟨rfl, hb8⟩; have BB : Below wr.heap.size wr w8 := AA.trans (hb8.mono AA.size))))
          all_goals go_wp2_with fail
          all_goals go_meet
          all_goals exact ⟨rfl, HP.out.below BB⟩
        · have di : decide ((0 : Int) < (i : Int)) = false := by simp; omega
          go_quiet (fail)
          go_wp2_with fail
          go_meet
          exact ⟨rfl, HP.out.drewN _⟩
      case rest =>
        obtain ⟨rfl, hPc⟩ := hcut
        have HPc := hid hPc
        clear hPc r1 ci cx cy HP DS d1
        go_wp2_with fail
        go_loopw [9] (fun q wq => ∃ k : Nat, k ≤ i ∧ q = .int .i64 (k : Int) ∧ PlW w wq w2.heap.size C (some ⟨bn, on, none⟩) n vc x y (some ⟨b1, o1, none⟩) c1 us) (fun q _ => i - (intOf q).toNat)
        case atStart => exact ⟨0, Nat.zero_le _, rfl, HPc.out⟩
        case round =>
          obtain ⟨k, hk, rfl, hPk⟩ := hrel
          have HPk := hid hPk
          clear hPk
          by_cases hki : k < i
          · have hki' : (k : Int) < (i : Int) := by omega
            have k0 : (0 : Int) ≤ (k : Int) := by omega
            have k1 : (k : Int) < ((us.length : Nat) : Int) := by omega
            have q1 := HPk.out.R.cell 1
            obtain ⟨d', hd', hdn', _, _⟩ := PP.out k (by omega)
            have hxx := (HDK.out k d' hki hd').2
            obtain ⟨b1', o1', e1, _, hc1'⟩ : ∃ b off, (some ⟨b1, o1, none⟩ : Option Addr) = some ⟨b, off, none⟩ ∧ b < wr.heap.size ∧ ∀ i, i < us.length → wr.cell? ⟨b, off + i, none⟩ = some (.int .i64 (us.getD i 0)) := by
              rcases HPk.out.I.2.2 with q0 | q
              · omega
              · exact q
            cases e1
            obtain ⟨bn', on', e2, _, hcn'⟩ : ∃ b off, (some ⟨bn, on, none⟩ : Option Addr) = some ⟨b, off, none⟩ ∧ b < wr.heap.size ∧ ∀ i, i < n → wr.cell? ⟨b, off + i * 2, none⟩ = some (.int .i64 (x i)) ∧ wr.cell? ⟨b, off + i * 2 + 1, none⟩ = some (.int .i64 (y i)) := by
              rcases HPk.out.N.2 with q0 | q
              · omega
              · exact q
            cases e2
            have ci := hc1' i hlt
            have ck := hc1' k (by omega)
            have cx := (hcn' d hdn).1
            have cx' := (hcn' d' hdn').1
            rw [HD.out] at ci
            rw [hd'] at ck
            rw [← HX.out] at cx
            rw [← HX.out] at hxx
            obtain ⟨X', hX'⟩ : ∃ X', X' = x d' := ⟨_, rfl⟩
            rw [← hX'] at cx' hxx
            have dk0 : (0 : Int) ≤ (d' : Int) := by omega
            have dk1 : (d' : Int) < (n : Int) := by omega
            have dx : (X == X') = false := by simp [hxx]
            clear hc1' hcn' hX' hd' hxx
            go_wp2_with fail
            go_quiet (fail)
            go_wp2
            go_roundw
            case rel => exact ⟨k + 1, by omega, by go_num, HPk.out.drewN _⟩
            case measure => simp [intOf]; omega
          · have hki' : ¬ (k : Int) < (i : Int) := by omega
            go_wp2
            go_roundw
            case rel => exact ⟨i + 1, by omega, by go_num, HPk.out⟩
            case measure => simp [intOf]; omega
    · have hlt' : ¬ (i : Int) < ((us.length : Nat) : Int) := by omega
      go_wp2
      go_ret
      exact ⟨rfl, HP.out.L⟩
theorem fnPlaced_walk {w : World} (a : Option Addr) (len cap : Nat) (z : List Int) (h : IsRow .u8 w a len cap z) :
    Calls Try.prog 4 #[.slice a len cap] w fun e w' => e = .returned (.bool true) ∧ Below w.heap.size w w' := by
  have m0 := h.le
  unfold maxLen at m0
  by_cases hl : len ≤ 1048576
  · exact fnPlaced_small a len cap w (codeOk_of w a len cap z h hl) m0.1 hl
  · have d0 : decide ((1048576 : Int) < (len : Int)) = true := by simp; omega
    go_enter Try.func4, Try.ntmps4
    go_wp2
    go_ret
    exact ⟨rfl, Below.refl _ _⟩
end Go.Proofs.Ytjeahllaajpddaa
