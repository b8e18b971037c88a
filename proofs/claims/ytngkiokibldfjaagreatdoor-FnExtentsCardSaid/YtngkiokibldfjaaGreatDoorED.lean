import Derived.Test.YtngkiokibldfjaaGreatDoorEC
import Derived.Test.YtngkiokibldfjaaGreatDoorDrawSpo
import Derived.Test.YtngkiokibldfjaaGreatDoorEE
namespace Go.Proofs.YtngkiokibldfjaaGreatDoor
open Go.RowKit
set_option linter.unusedVariables false
/-! The draws of records. -/
theorem tab_at {w : World} {g : Nat} (h : RowAt w g 9 #[.string ⟨#[231]⟩, .string ⟨#[120]⟩, .string ⟨#[231, 1, 97]⟩]) (k : Nat) (hk : k < 3) : ∃ s : ByteArray, w.cell? ⟨g, k, none⟩ = some (.string s) ∧ s.size ≤ 3 := by
  match k, hk with
  | 0, _ => exact ⟨_, h.cell 0, by decide⟩
  | 1, _ => exact ⟨_, h.cell 1, by decide⟩
  | 2, _ => exact ⟨_, h.cell 2, by decide⟩
set_option maxRecDepth 20000 in
set_option maxHeartbeats 8000000 in
theorem records_all (W0 w : World) (c : Nat) (a : Option Addr) (len cap p : Nat) (h : Src W0 w c a len cap p) (hp : p ≤ 100000) :
    Calls Tryz.prog 56 #[.pointer (some ⟨c, 0, none⟩)] w fun e w' => (∃ u : ByteArray, e = .returned (.string u) ∧ u.size ≤ 1200000) ∧ (∃ p', Src W0 w' c a len cap p' ∧ p' ≤ p + 600) ∧ w.grownBy w' (some c) := by
  have H0 := hid h
  clear h
  go_enter Tryz.func56, Tryz.ntmps56
  go_wp2_with fail
  refine (n_all W0 _ c a len cap p 6 H0.out (by omega) (by omega) (by omega)).mono ?_
  rintro e w2 ⟨⟨r, rfl, hr0, hr1⟩, hs2, hg2⟩
  obtain ⟨n0, rfl⟩ := Int.eq_ofNat_of_zero_le hr0
  have n6 : n0 < 6 := by omega
  have S2 := hid hs2
  have G2 := hid hg2
  clear hs2 hg2 hr0 hr1 H0
  go_wp2_with fail
  go_loopw [3, 4] (fun v i wr => ∃ (u : ByteArray) (n q : Nat), v = .string u ∧ i = .int .i64 (n : Int) ∧ n < 6 ∧ u.size + 200000 * n ≤ 1200000 ∧ q + 60 * n ≤ p + 400 ∧ Src W0 wr c a len cap q ∧ w.grownBy wr (some c)) (fun _ i _ => (intOf i).toNat)
  case atStart => exact ⟨⟨#[]⟩, n0, p + 1, rfl, rfl, n6, by show 0 + _ ≤ _; omega, by omega, S2.out, G2.out⟩
  case round =>
    obtain ⟨u, n, q, rfl, rfl, hn, hu, hq, hs, hg⟩ := hrel
    have SR := hid hs
    have GR := hid hg
    have HU := hid hu
    clear hs hg hu S2 G2
    by_cases h0 : n = 0
    · subst h0
      go_wp2_with fail
      go_ret
      exact ⟨⟨_, rfl, by have := HU.out; omega⟩, ⟨q, SR.out, by omega⟩, GR.out⟩
    · have d0 : (0 : Int) < (n : Int) := by omega
      have QH := hid hq
      clear hq
      go_wp2_with fail
      refine (one_all W0 _ c a len cap q 4 SR.out (by have := QH.out; omega) (by omega) (by omega)).mono ?_
      rintro e w3 ⟨⟨b3, rfl⟩, hs3, hg3⟩
      have S3 := hid hs3
      have G3 := hid (grown_trans GR.out hg3)
      clear hs3 hg3 SR GR
      cases b3 with
      | true =>
        go_wp2_with fail
        refine (exKey_all W0 _ c a len cap (q + 1) S3.out (by have := QH.out; omega)).mono ?_
        rintro e w4 ⟨⟨k, rfl, hk⟩, hs4, hg4⟩
        have KP := hid (sPutRec k true ⟨#[]⟩ (by omega) (by decide) w4)
        have R5 : (recV k true ⟨#[]⟩).size ≤ 110000 := recV_up k true ⟨#[]⟩ hk (by decide)
        obtain ⟨rr, hrr⟩ : ∃ x, x = recV k true ⟨#[]⟩ := ⟨_, rfl⟩
        rw [← hrr] at KP R5
        have S4 := hid hs4
        have G4 := hid (grown_trans G3.out hg4)
        clear hs4 hg4 hrr S3 G3 hk
        go_wp2_with (first | (refine KP.out.mono ?_) | go_in)
        rintro e w5 ⟨rfl, hb5⟩
        have S5 := hid (S4.out.belowD hb5)
        have G5 := hid (grown_trans G4.out (below_grown hb5 _))
        have z1 : ¬ 9223372036854775807 < u.size + rr.size := by have := HU.out; omega
        obtain ⟨u2, hu2⟩ : ∃ x, x = u ++ rr := ⟨_, rfl⟩
        have U2 : Hid (u2.size + 200000 * (n - 1) ≤ 1199000) := by show _ ≤ _; have := HU.out; rw [hu2, ByteArray.size_append]; omega
        have HU2 := hid hu2
        clear hb5 S4 G4 KP hu2 R5
        go_upto_region 8 with fail
        rw [← HU2.out]
        clear HU2 z1
        go_wp2_with fail
        refine (one_all W0 _ c a len cap (q + 1 + 1) 8 S5.out (by have := QH.out; omega) (by omega) (by omega)).mono ?_
        rintro e w8 ⟨⟨b8, rfl⟩, hs8, hg8⟩
        have S8 := hid hs8
        have G8 := hid (grown_trans G5.out hg8)
        clear hs8 hg8
        cases b8 with
        | true =>
          obtain ⟨W9, hW9⟩ : ∃ W, W = w8.alloc (.cells #[.string ⟨#[231]⟩, .string ⟨#[120]⟩, .string ⟨#[231, 1, 97]⟩] 9) := ⟨_, rfl⟩
          have G9 : w8.grownBy W9 (some c) := by rw [hW9]; exact World.grownBy_alloc _ _ _
          have S9 : Src W0 W9 c a len cap (q + 1 + 1 + 1) := by rw [hW9]; exact S8.out.alloc _
          have T9 : Hid (RowAt W9 w8.heap.size 9 #[.string ⟨#[231]⟩, .string ⟨#[120]⟩, .string ⟨#[231, 1, 97]⟩]) := by rw [hW9]; exact RowAt.new _ _ _
          have KN := hid (n_all W0 W9 c a len cap (q + 1 + 1 + 1) 3 S9 (by have := QH.out; omega) (by omega) (by omega))
          have GA := hid (grown_trans G8.out G9)
          have c8 := hid S8.out.lt
          have HW9 := hid hW9
          rw [hW9] at KN
          clear G9 S9 hW9
          go_wp2_with fail
          refine KN.out.mono ?_
          rw [← HW9.out]
          rintro e w10 ⟨⟨r, rfl, hr0, hr1⟩, hs10, hg10⟩
          obtain ⟨r', rfl⟩ := Int.eq_ofNat_of_zero_le hr0
          obtain ⟨x, hx, hx3⟩ := tab_at (rowF T9.out hg10 c8.out) r' (by omega)
          have S10 := hid hs10
          have G10 := hid (grown_trans GA.out hg10)
          have X3 := hid hx3
          have z2 : ¬ 9223372036854775807 < u2.size + x.size := by have := U2.out; omega
          clear hs10 hg10 hx3 KN GA HW9 T9
          go_wp2
          go_roundw
          case rel => exact ⟨_, n - 1, q + 1 + 1 + 1 + 1, rfl, by go_num, by omega, by have := U2.out; have := X3.out; simp only [ByteArray.size_append]; omega, by have := QH.out; omega, S10.out, G10.out⟩
          case measure => simp [intOf]; omega
        | false =>
          go_wp2_with fail
          go_roundw
          case rel => exact ⟨_, n - 1, q + 1 + 1 + 1, rfl, by go_num, by omega, by have := U2.out; omega, by have := QH.out; omega, S8.out, G8.out⟩
          case measure => simp [intOf]; omega
      | false =>
        go_wp2_with fail
        refine (exKey_all W0 _ c a len cap (q + 1) S3.out (by have := QH.out; omega)).mono ?_
        rintro e w4 ⟨⟨k, rfl, hk⟩, hs4, hg4⟩
        have S4 := hid hs4
        have G4 := hid (grown_trans G3.out hg4)
        have KB := hid hk
        clear hs4 hg4 S3 G3 hk
        go_wp2_with fail
        refine (n_all W0 _ c a len cap (q + 1 + 1) 12 S4.out (by have := QH.out; omega) (by omega) (by omega)).mono ?_
        rintro e w5 ⟨⟨r, rfl, hr0, hr1⟩, hs5, hg5⟩
        obtain ⟨r', rfl⟩ := Int.eq_ofNat_of_zero_le hr0
        have S5 := hid hs5
        have G5 := hid (grown_trans G4.out hg5)
        clear hs5 hg5 S4 G4
        go_wp2_with fail
        refine (bytes_all W0 _ c a len cap (q + 1 + 1 + 1) r' S5.out (by have := QH.out; omega) (by omega)).mono ?_
        rintro e w6 ⟨⟨t, rfl, ht⟩, ⟨p6, hs6, hp6⟩, hg6⟩
        have KP := hid (sPutRec k false t (by have := KB.out; omega) (by omega) w6)
        have R5 : (recV k false t).size ≤ 110000 := recV_up k false t KB.out (by omega)
        obtain ⟨rr, hrr⟩ : ∃ x, x = recV k false t := ⟨_, rfl⟩
        rw [← hrr] at KP R5
        have S6 := hid hs6
        have G6 := hid (grown_trans G5.out hg6)
        have P6 : Hid (p6 ≤ q + 1 + 1 + 1 + 1 + 2 * 11) := by show _ ≤ _; omega
        replace QH : Hid (p6 + 60 * (n - 1) ≤ p + 390) := by show _ ≤ _; have := QH.out; have := P6.out; omega
        clear hs6 hg6 hrr S5 G5 KB P6 hp6
        go_wp2_with (first | (refine KP.out.mono ?_) | go_in)
        rintro e w7 ⟨rfl, hb7⟩
        have S7 := hid (S6.out.belowD hb7)
        have G7 := hid (grown_trans G6.out (below_grown hb7 _))
        have z1 : ¬ 9223372036854775807 < u.size + rr.size := by have := HU.out; omega
        obtain ⟨u2, hu2⟩ : ∃ x, x = u ++ rr := ⟨_, rfl⟩
        have U2 : Hid (u2.size + 200000 * (n - 1) ≤ 1199000) := by show _ ≤ _; have := HU.out; rw [hu2, ByteArray.size_append]; omega
        have HU2 := hid hu2
        clear hb7 S6 G6 KP hu2 R5
        go_upto_region 8 with fail
        rw [← HU2.out]
        clear HU2 z1
        go_wp2_with fail
        refine (one_all W0 _ c a len cap (p6) 8 S7.out (by have := QH.out; omega) (by omega) (by omega)).mono ?_
        rintro e w8 ⟨⟨b8, rfl⟩, hs8, hg8⟩
        have S8 := hid hs8
        have G8 := hid (grown_trans G7.out hg8)
        clear hs8 hg8
        cases b8 with
        | true =>
          obtain ⟨W9, hW9⟩ : ∃ W, W = w8.alloc (.cells #[.string ⟨#[231]⟩, .string ⟨#[120]⟩, .string ⟨#[231, 1, 97]⟩] 9) := ⟨_, rfl⟩
          have G9 : w8.grownBy W9 (some c) := by rw [hW9]; exact World.grownBy_alloc _ _ _
          have S9 : Src W0 W9 c a len cap (p6 + 1) := by rw [hW9]; exact S8.out.alloc _
          have T9 : Hid (RowAt W9 w8.heap.size 9 #[.string ⟨#[231]⟩, .string ⟨#[120]⟩, .string ⟨#[231, 1, 97]⟩]) := by rw [hW9]; exact RowAt.new _ _ _
          have KN := hid (n_all W0 W9 c a len cap (p6 + 1) 3 S9 (by have := QH.out; omega) (by omega) (by omega))
          have GA := hid (grown_trans G8.out G9)
          have c8 := hid S8.out.lt
          have HW9 := hid hW9
          rw [hW9] at KN
          clear G9 S9 hW9
          go_wp2_with fail
          refine KN.out.mono ?_
          rw [← HW9.out]
          rintro e w10 ⟨⟨r, rfl, hr0, hr1⟩, hs10, hg10⟩
          obtain ⟨r', rfl⟩ := Int.eq_ofNat_of_zero_le hr0
          obtain ⟨x, hx, hx3⟩ := tab_at (rowF T9.out hg10 c8.out) r' (by omega)
          have S10 := hid hs10
          have G10 := hid (grown_trans GA.out hg10)
          have X3 := hid hx3
          have z2 : ¬ 9223372036854775807 < u2.size + x.size := by have := U2.out; omega
          clear hs10 hg10 hx3 KN GA HW9 T9
          go_wp2
          go_roundw
          case rel => exact ⟨_, n - 1, p6 + 1 + 1, rfl, by go_num, by omega, by have := U2.out; have := X3.out; simp only [ByteArray.size_append]; omega, by have := QH.out; omega, S10.out, G10.out⟩
          case measure => simp [intOf]; omega
        | false =>
          go_wp2_with fail
          go_roundw
          case rel => exact ⟨_, n - 1, p6 + 1, rfl, by go_num, by omega, by have := U2.out; omega, by have := QH.out; omega, S8.out, G8.out⟩
          case measure => simp [intOf]; omega
set_option maxRecDepth 20000 in
set_option maxHeartbeats 2000000 in
theorem drawScan_all (w : World) (a : Option Addr) (len cap : Nat) (hc : CodeOk w a len) (hl : len ≤ cap) :
    Calls Tryz.prog 30 #[.slice a len cap] w fun e w' => (∃ u : ByteArray, e = .returned (.string u) ∧ u.size ≤ 1200003) ∧ Below w.heap.size w w' := by
  have KS := hid (source_all w a len cap hc hl)
  clear hc
  go_enter Tryz.func30, Tryz.ntmps30
  go_wp2_with fail
  refine KS.out.mono ?_
  rintro e w1 ⟨rfl, hs1, hb1⟩
  have B1 := hid hb1
  have S1 := hid hs1
  clear hs1 hb1 KS
  go_wp2_with fail
  refine (records_all w _ _ a len cap 0 S1.out (by omega)).mono ?_
  rintro e w2 ⟨⟨u, rfl, hu⟩, ⟨p2, hs2, hp2⟩, hg2⟩
  have B2 := hid (below_src B1.out hg2)
  have S2 := hid hs2
  clear hs2 hg2 S1 B1
  go_wp2_with fail
  refine (one_all w _ _ a len cap p2 2 S2.out (by omega) (by omega) (by omega)).mono ?_
  rintro e w3 ⟨⟨b3, rfl⟩, hs3, hg3⟩
  have B3 := hid (below_src B2.out hg3)
  have S3 := hid hs3
  clear hs3 hg3 S2 B2
  cases b3 with
  | true =>
    go_wp2_with fail
    refine (spoil_all w _ _ a len cap (p2 + 1) u S3.out (by omega) (by omega)).mono ?_
    rintro e w4 ⟨⟨v, rfl, hv⟩, ⟨p4, hs4, hp4⟩, hg4⟩
    have B4 := hid (below_src B3.out hg4)
    clear hs4 hg4
    go_wp2_with fail
    go_ret
    exact ⟨⟨_, rfl, by omega⟩, B4.out⟩
  | false =>
    go_wp2_with fail
    go_ret
    exact ⟨⟨_, rfl, by omega⟩, B3.out⟩
end Go.Proofs.YtngkiokibldfjaaGreatDoor
namespace Go.Proofs.YtngkiokibldfjaaGreatDoor
open Go.RowKit
set_option linter.unusedVariables false
/-- an extent under way -/
structure RxD (w w0 : World) (Y : Nat) (a : Option Addr) (len cap : Nat) (d : ByteArray) (s : Int) (pp : Nat) (wx : World) : Prop where
  S : Src w0 wx w0.heap.size a len cap pp
  T : RowAt wx Y 30 #[.string d, .int .i64 s]
  X : RowAt wx w.heap.size 30 #[.string ⟨#[]⟩, .int .i64 0]
  B : Below w.heap.size w wx
  o1 : w0.heap.size = w.heap.size + 1
  o2 : w0.heap.size < Y
  z : d.size ≤ 1200003
theorem RxD.src {w w0 : World} {Y : Nat} {a : Option Addr} {len cap : Nat} {d : ByteArray} {s : Int} {pp p' : Nat} {A B : World} (h : RxD w w0 Y a len cap d s pp A) (hs : Src w0 B w0.heap.size a len cap p') (hg : A.grownBy B (some w0.heap.size)) : RxD w w0 Y a len cap d s p' B :=
  ⟨hs, rowF h.T hg h.o2, (hg.block _ h.X.lt (fun e => by have := Option.some.inj e; have := h.o1; omega)).trans h.X, h.B.grown hg h.B.size (fun g e => by have := Option.some.inj e; have := h.o1; omega), h.o1, h.o2, h.z⟩
theorem RxD.below {w w0 : World} {Y : Nat} {a : Option Addr} {len cap : Nat} {d : ByteArray} {s : Int} {pp : Nat} {A B : World} (h : RxD w w0 Y a len cap d s pp A) (hb : Below A.heap.size A B) : RxD w w0 Y a len cap d s pp B :=
  h.src (h.S.belowD hb) (below_grown hb _)
theorem RxD.set0 {w w0 : World} {Y : Nat} {a : Option Addr} {len cap : Nat} {d d' : ByteArray} {s : Int} {pp : Nat} {A : World} (h : RxD w w0 Y a len cap d s pp A) (hd : d'.size ≤ 1200003) : RxD w w0 Y a len cap d' s pp (A.setCell ⟨Y, 0, none⟩ (.string d')) :=
  ⟨h.S.set h.o2 0 _, h.T.set 0 _, h.X.other _ _ (by show w.heap.size ≠ Y; have := h.o1; have := h.o2; omega), h.B.setCell (p := ⟨Y, 0, none⟩) (by show w.heap.size ≤ Y; have := h.o1; have := h.o2; omega) _, h.o1, h.o2, hd⟩
theorem RxD.set1 {w w0 : World} {Y : Nat} {a : Option Addr} {len cap : Nat} {d : ByteArray} {s s' : Int} {pp : Nat} {A : World} (h : RxD w w0 Y a len cap d s pp A) : RxD w w0 Y a len cap d s' pp (A.setCell ⟨Y, 1, none⟩ (.int .i64 s')) :=
  ⟨h.S.set h.o2 1 _, h.T.set 1 _, h.X.other _ _ (by show w.heap.size ≠ Y; have := h.o1; have := h.o2; omega), h.B.setCell (p := ⟨Y, 1, none⟩) (by show w.heap.size ≤ Y; have := h.o1; have := h.o2; omega) _, h.o1, h.o2, h.z⟩
def dx7o0 : Oper := ⟨some 25, .fieldAddr 30 (.tmp 5) 1, 0, "l07_extent.go:255", #[], none⟩
def dx7o1 : Oper := ⟨some 26, .load 2 (.tmp 25), 2, "l07_extent.go:255", #[⟨0, .data⟩], none⟩
def dx7o2 : Oper := ⟨some 27, .binOp .add 2 (.tmp 26) (.const (.int .i64 1)) 2, 2, "l07_extent.go:255", #[⟨1, .data⟩], none⟩
def dx7o3 : Oper := ⟨some 28, .move (.tmp 4), 73, "l07_extent.go:255", #[], none⟩
def dx7o4 : Oper := ⟨some 29, .call { callee := .value (.func 31), args := #[.tmp 28, .const (.int .i64 3)], argTypes := #[73, 2] }, 2, "l07_extent.go:255", #[⟨3, .data⟩], none⟩
def dx7o5 : Oper := ⟨some 30, .binOp .sub 2 (.tmp 27) (.tmp 29) 2, 2, "l07_extent.go:255", #[⟨2, .data⟩, ⟨4, .data⟩], none⟩
def dx7o6 : Oper := ⟨some 31, .fieldAddr 30 (.tmp 5) 1, 0, "l07_extent.go:255", #[⟨0, .phase⟩, ⟨1, .phase⟩, ⟨2, .phase⟩, ⟨3, .phase⟩, ⟨4, .phase⟩, ⟨5, .phase⟩], none⟩
def dx7o7 : Oper := ⟨none, .store 2 (.tmp 31) (.tmp 30), 0, "l07_extent.go:255", #[⟨6, .data⟩, ⟨5, .data⟩, ⟨4, .chain⟩, ⟨0, .phase⟩, ⟨1, .phase⟩, ⟨2, .phase⟩, ⟨3, .phase⟩, ⟨4, .phase⟩, ⟨5, .phase⟩], none⟩
def dx7O : Array Oper := #[dx7o0, dx7o1, dx7o2, dx7o3, dx7o4, dx7o5, dx7o6, dx7o7]
structure dx7P where
  (Wa W0 : World)
  (X Z : Nat)
  (a : Option Addr)
  (len cap p : Nat)
  (dd : ByteArray)
  (s0 s1 s2 s3 s6 s7 s8 s9 s10 s11 s12 s13 s14 s15 s16 s17 s18 s19 s20 s21 s22 s23 s24 s25 s26 s27 s28 s29 s30 s31 s32 s33 s34 s35 s36 s37 s38 s39 s40 s41 s42 s43 s44 s45 s46 s47 s48 s49 s50 s51 s52 s53 s54 s55 : Value)
def dx7T (P : dx7P) (R2 : Nat) (pp : Nat) (b0 b1 b2 b3 b4 b5 b6 b7 : Bool) : Array Value := #[P.s0, P.s1, P.s2, P.s3, .pointer (some ⟨P.W0.heap.size, 0, none⟩), .pointer (some ⟨P.X, 0, none⟩), P.s6, P.s7, P.s8, P.s9, P.s10, P.s11, P.s12, P.s13, P.s14, P.s15, P.s16, P.s17, P.s18, P.s19, P.s20, P.s21, P.s22, P.s23, P.s24, sel b0 (.pointer (some ⟨P.X, 1, none⟩)) (P.s25), sel b1 (.int .i64 (P.Z : Int)) (P.s26), sel b2 (.int .i64 ((P.Z : Int) + 1)) (P.s27), sel b3 (.pointer (some ⟨P.W0.heap.size, 0, none⟩)) (P.s28), sel b4 (.int .i64 (R2 : Int)) (P.s29), sel b5 (.int .i64 ((P.Z : Int) + 1 - (R2 : Int))) (P.s30), sel b6 (.pointer (some ⟨P.X, 1, none⟩)) (P.s31), P.s32, P.s33, P.s34, P.s35, P.s36, P.s37, P.s38, P.s39, P.s40, P.s41, P.s42, P.s43, P.s44, P.s45, P.s46, P.s47, P.s48, P.s49, P.s50, P.s51, P.s52, P.s53, P.s54, P.s55]
def dx7F (P : dx7P) (R2 : Nat) (pp : Nat) (b0 b1 b2 b3 b4 b5 b6 b7 : Bool) (w : World) : Prop := (RxD P.Wa P.W0 P.X P.a P.len P.cap P.dd (cond b7 ((P.Z : Int) + 1 - (R2 : Int)) (P.Z : Int)) pp w) ∧ (pp ≤ P.p + 1) ∧ (b4 = true → R2 < 3) ∧ (b4 = false → pp = P.p) ∧ (P.p ≤ 900000) ∧ (P.Z ≤ 2000000)
def dx7I (P : dx7P) (l : Array Bool) (f : Act) (w : World) : Prop :=
  ∃ (b0 b1 b2 b3 b4 b5 b6 b7 : Bool) (R2 : Nat) (pp : Nat), l = #[b0, b1, b2, b3, b4, b5, b6, b7] ∧ f = { tmps := dx7T P R2 pp b0 b1 b2 b3 b4 b5 b6 b7, defers := [] } ∧ dx7F P R2 pp b0 b1 b2 b3 b4 b5 b6 b7 w
theorem dx7M {P : dx7P} {b0 b1 b2 b3 b4 b5 b6 b7 : Bool} (R2 : Nat) (pp : Nat) {l : Array Bool} {f : Act} {w : World} (hl : l = #[b0, b1, b2, b3, b4, b5, b6, b7]) (hf : f = { tmps := dx7T P R2 pp b0 b1 b2 b3 b4 b5 b6 b7, defers := [] }) (h : dx7F P R2 pp b0 b1 b2 b3 b4 b5 b6 b7 w) : dx7I P l f w := ⟨b0, b1, b2, b3, b4, b5, b6, b7, R2, pp, hl, hf, h⟩
set_option maxRecDepth 20000 in
set_option maxHeartbeats 20000000 in
theorem dx7_step {Q : Exit → Act → World → Prop} (P : dx7P) (l : Array Bool) (f : Act) (w : World) (hC : Closed dx7O l) (hI : dx7I P l f w) (i : Nat) (h0 : l.getD i true = false) (o : Oper) (ho : dx7O[i]? = some o) (h1 : ∀ e ∈ o.after, Region.binds .any e = true → l.getD e.on false = true) : wpOp Tryz.prog dx7O Q i (dx7I P (l.setIfInBounds i true)) f w := by
  obtain ⟨b0, b1, b2, b3, b4, b5, b6, b7, R2, pp, rfl, rfl, hF⟩ := hI
  have hi : i < 8 := by
    rcases Nat.lt_or_ge i 8 with h | h
    · exact h
    · rw [show dx7O[i]? = none from Array.getElem?_eq_none h] at ho; cases ho
  rcases (by omega : i = 0 ∨ i = 1 ∨ i = 2 ∨ i = 3 ∨ i = 4 ∨ i = 5 ∨ i = 6 ∨ i = 7) with rfl | rfl | rfl | rfl | rfl | rfl | rfl | rfl
  · obtain rfl : dx7o0 = o := Option.some.inj ho
    obtain rfl : b0 = false := h0
    have hn := wayN_all hC (i := 0) rfl [(1, 0), (2, 1), (5, 2), (6, 0), (7, 0)] [] nk rfl; repeat (obtain ⟨rfl, hn⟩ := hn)
    obtain ⟨hD, hp, hr2, hq, hk, hz⟩ := hF
    refine wpOp_step (o := dx7o0) rfl (fun K hK => ?_)
    replace hK := hid hK
    simp only [dx7o0, dx7T, sel_f]
    go_simp
    exact hK.out _ _ (dx7M R2 pp rfl rfl ⟨hD, hp, hr2, hq, hk, hz⟩)
  · obtain rfl : dx7o1 = o := Option.some.inj ho
    obtain rfl : b1 = false := h0
    have hn := wayP_all (o := dx7o1) hC h1 [(0, none)] [] nk rfl; repeat (obtain ⟨rfl, hn⟩ := hn)
    have hn := wayN_all hC (i := 1) rfl [(2, 1), (5, 2), (6, 1), (7, 1)] [] nk rfl; repeat (obtain ⟨rfl, hn⟩ := hn)
    obtain ⟨hD, hp, hr2, hq, hk, hz⟩ := hF
    have c2 := hD.T.cell 1
    refine wpOp_step (o := dx7o1) rfl (fun K hK => ?_)
    replace hK := hid hK
    simp only [dx7o1, dx7T, sel_t, sel_f]
    go_simp
    exact hK.out _ _ (dx7M R2 pp rfl rfl ⟨hD, hp, hr2, hq, hk, hz⟩)
  · obtain rfl : dx7o2 = o := Option.some.inj ho
    obtain rfl : b2 = false := h0
    have hn := wayP_all (o := dx7o2) hC h1 [(1, none), (0, some 1)] [] nk rfl; repeat (obtain ⟨rfl, hn⟩ := hn)
    have hn := wayN_all hC (i := 2) rfl [(5, 2), (6, 2), (7, 2)] [] nk rfl; repeat (obtain ⟨rfl, hn⟩ := hn)
    obtain ⟨hD, hp, hr2, hq, hk, hz⟩ := hF
    have z0 : IntKind.i64.wrap ((P.Z : Int) + 1) = (P.Z : Int) + 1 := by rw [IntKind.wrap_i64]; omega
    refine wpOp_step (o := dx7o2) rfl (fun K hK => ?_)
    replace hK := hid hK
    simp only [dx7o2, dx7T, sel_t, sel_f]
    go_simp
    exact hK.out _ _ (dx7M R2 pp rfl rfl ⟨hD, hp, hr2, hq, hk, hz⟩)
  · obtain rfl : dx7o3 = o := Option.some.inj ho
    obtain rfl : b3 = false := h0
    have hn := wayN_all hC (i := 3) rfl [(4, 3), (5, 4), (6, 3), (7, 3)] [] nk rfl; repeat (obtain ⟨rfl, hn⟩ := hn)
    obtain ⟨hD, hp, hr2, hq, hk, hz⟩ := hF
    refine wpOp_step (o := dx7o3) rfl (fun K hK => ?_)
    replace hK := hid hK
    simp only [dx7o3, dx7T, sel_f]
    go_simp
    exact hK.out _ _ (dx7M R2 pp rfl rfl ⟨hD, hp, hr2, hq, hk, hz⟩)
  · obtain rfl : dx7o4 = o := Option.some.inj ho
    obtain rfl : b4 = false := h0
    have hn := wayP_all (o := dx7o4) hC h1 [(3, none)] [] nk rfl; repeat (obtain ⟨rfl, hn⟩ := hn)
    have hn := wayN_all hC (i := 4) rfl [(5, 4), (6, 4), (7, 4)] [] nk rfl; repeat (obtain ⟨rfl, hn⟩ := hn)
    obtain ⟨hD, hp, hr2, hq, hk, hz⟩ := hF
    have pq := hq rfl
    refine wpOp_step (o := dx7o4) rfl (fun K hK => ?_)
    replace hK := hid hK
    simp only [dx7o4, dx7T, sel_t, sel_f]
    go_simp
    refine (n_all P.W0 _ P.W0.heap.size P.a P.len P.cap pp 3 hD.S (by omega) (by omega) (by omega)).mono ?_
    rintro e w2 ⟨⟨r, rfl, h20, h21⟩, hs2, hg2⟩
    obtain ⟨R, rfl⟩ := Int.eq_ofNat_of_zero_le h20
    dsimp only
    exact hK.out _ _ (dx7M R (pp + 1) rfl rfl ⟨hD.src hs2 hg2, by omega, fun _ => by omega, fun h => Bool.noConfusion h, hk, hz⟩)
  · obtain rfl : dx7o5 = o := Option.some.inj ho
    obtain rfl : b5 = false := h0
    have hn := wayP_all (o := dx7o5) hC h1 [(4, none), (2, none), (3, some 4), (1, some 2), (0, some 1)] [] nk rfl; repeat (obtain ⟨rfl, hn⟩ := hn)
    have hn := wayN_all hC (i := 5) rfl [(6, 5), (7, 5)] [] nk rfl; repeat (obtain ⟨rfl, hn⟩ := hn)
    obtain ⟨hD, hp, hr2, hq, hk, hz⟩ := hF
    have r := hr2 rfl
    have z0 : IntKind.i64.wrap ((P.Z : Int) + 1 - (R2 : Int)) = (P.Z : Int) + 1 - (R2 : Int) := by rw [IntKind.wrap_i64]; omega
    refine wpOp_step (o := dx7o5) rfl (fun K hK => ?_)
    replace hK := hid hK
    simp only [dx7o5, dx7T, sel_t, sel_f]
    go_simp
    exact hK.out _ _ (dx7M R2 pp rfl rfl ⟨hD, hp, hr2, hq, hk, hz⟩)
  · obtain rfl : dx7o6 = o := Option.some.inj ho
    obtain rfl : b6 = false := h0
    have hn := wayP_all (o := dx7o6) hC h1 [(5, none), (4, none), (3, none), (2, none), (1, none), (0, none)] [] nk rfl; repeat (obtain ⟨rfl, hn⟩ := hn)
    have hn := wayN_all hC (i := 6) rfl [(7, 6)] [] nk rfl; repeat (obtain ⟨rfl, hn⟩ := hn)
    obtain ⟨hD, hp, hr2, hq, hk, hz⟩ := hF
    refine wpOp_step (o := dx7o6) rfl (fun K hK => ?_)
    replace hK := hid hK
    simp only [dx7o6, dx7T, sel_t, sel_f]
    go_simp
    exact hK.out _ _ (dx7M R2 pp rfl rfl ⟨hD, hp, hr2, hq, hk, hz⟩)
  · obtain rfl : dx7o7 = o := Option.some.inj ho
    obtain rfl : b7 = false := h0
    have hn := wayP_all (o := dx7o7) hC h1 [(6, none), (5, none), (4, none), (3, none), (2, none), (1, none), (0, none)] [] nk rfl; repeat (obtain ⟨rfl, hn⟩ := hn)
    obtain ⟨hD, hp, hr2, hq, hk, hz⟩ := hF
    have q1 := hD.T.cell 1
    have f1 := hD.T.free 1
    refine wpOp_step (o := dx7o7) rfl (fun K hK => ?_)
    replace hK := hid hK
    simp only [dx7o7, dx7T, sel_t]
    go_simp
    exact hK.out _ _ (dx7M R2 pp rfl rfl ⟨hD.set1, hp, hr2, hq, hk, hz⟩)
set_option maxRecDepth 20000 in
set_option maxHeartbeats 4000000 in
theorem dx7_wp {Q : Exit → Act → World → Prop} {rid : Nat} (Wa W0 : World) (X Z : Nat) (a : Option Addr) (len cap p : Nat) (dd : ByteArray) {s0 s1 s2 s3 s6 s7 s8 s9 s10 s11 s12 s13 s14 s15 s16 s17 s18 s19 s20 s21 s22 s23 s24 s25 s26 s27 s28 s29 s30 s31 s32 s33 s34 s35 s36 s37 s38 s39 s40 s41 s42 s43 s44 s45 s46 s47 s48 s49 s50 s51 s52 s53 s54 s55 : Value} (w : World) (hD : RxD Wa W0 X a len cap dd (Z : Int) p w) (hk : p ≤ 900000) (hz : Z ≤ 2000000)
    (fin : ∀ (R2 : Nat) (pp : Nat) (w' : World), (RxD Wa W0 X a len cap dd (cond true ((Z : Int) + 1 - (R2 : Int)) (Z : Int)) pp w') → (pp ≤ p + 1) → (R2 < 3) → (p ≤ 900000) → (Z ≤ 2000000) → Q .normal { tmps := #[s0, s1, s2, s3, .pointer (some ⟨W0.heap.size, 0, none⟩), .pointer (some ⟨X, 0, none⟩), s6, s7, s8, s9, s10, s11, s12, s13, s14, s15, s16, s17, s18, s19, s20, s21, s22, s23, s24, .pointer (some ⟨X, 1, none⟩), .int .i64 (Z : Int), .int .i64 ((Z : Int) + 1), .pointer (some ⟨W0.heap.size, 0, none⟩), .int .i64 (R2 : Int), .int .i64 ((Z : Int) + 1 - (R2 : Int)), .pointer (some ⟨X, 1, none⟩), s32, s33, s34, s35, s36, s37, s38, s39, s40, s41, s42, s43, s44, s45, s46, s47, s48, s49, s50, s51, s52, s53, s54, s55], defers := [] } w') :
    (Code.region rid dx7O true).wp Tryz.prog Q { tmps := #[s0, s1, s2, s3, .pointer (some ⟨W0.heap.size, 0, none⟩), .pointer (some ⟨X, 0, none⟩), s6, s7, s8, s9, s10, s11, s12, s13, s14, s15, s16, s17, s18, s19, s20, s21, s22, s23, s24, s25, s26, s27, s28, s29, s30, s31, s32, s33, s34, s35, s36, s37, s38, s39, s40, s41, s42, s43, s44, s45, s46, s47, s48, s49, s50, s51, s52, s53, s54, s55], defers := [] } w := by
  refine wp_region_inv (ops := dx7O) (dx7I ⟨Wa, W0, X, Z, a, len, cap, p, dd, s0, s1, s2, s3, s6, s7, s8, s9, s10, s11, s12, s13, s14, s15, s16, s17, s18, s19, s20, s21, s22, s23, s24, s25, s26, s27, s28, s29, s30, s31, s32, s33, s34, s35, s36, s37, s38, s39, s40, s41, s42, s43, s44, s45, s46, s47, s48, s49, s50, s51, s52, s53, s54, s55⟩) (by kernel_rfl) (by kernel_rfl) (fun l f v hI => ?_) (fun l f v hC hI i h0 o ho h1 => dx7_step ⟨Wa, W0, X, Z, a, len, cap, p, dd, s0, s1, s2, s3, s6, s7, s8, s9, s10, s11, s12, s13, s14, s15, s16, s17, s18, s19, s20, s21, s22, s23, s24, s25, s26, s27, s28, s29, s30, s31, s32, s33, s34, s35, s36, s37, s38, s39, s40, s41, s42, s43, s44, s45, s46, s47, s48, s49, s50, s51, s52, s53, s54, s55⟩ l f v hC hI i h0 o ho h1) (fun l f v hI hall => ?_) ?_
  · obtain ⟨_, _, _, _, _, _, _, _, _, _, rfl, _⟩ := hI; rfl
  · obtain ⟨b0, b1, b2, b3, b4, b5, b6, b7, R2, pp, rfl, rfl, hD, hp, hr2, hq, hk, hz⟩ := hI
    have hn := allT hall [0, 1, 2, 3, 4, 5, 6, 7] rfl; repeat (obtain ⟨rfl, hn⟩ := hn)
    exact fin R2 pp v hD hp (hr2 rfl) hk hz
  · exact ⟨false, false, false, false, false, false, false, false, 0, p, rfl, rfl, hD.src hD.S.drew (grown_drewS _ _), Nat.le_add_right _ _, fun h => Bool.noConfusion h, fun _ => rfl, hk, hz⟩
end Go.Proofs.YtngkiokibldfjaaGreatDoor
