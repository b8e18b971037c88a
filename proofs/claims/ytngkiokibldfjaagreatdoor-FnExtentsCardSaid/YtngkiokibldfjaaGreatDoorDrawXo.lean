import Derived.Test.YtngkiokibldfjaaGreatDoorEC
import Derived.Test.YtngkiokibldfjaaGreatDoorOpsO
namespace Go.Proofs.YtngkiokibldfjaaGreatDoor
open Go.RowKit
set_option linter.unusedVariables false
/-! The draw of operations on an extent. -/
theorem lockO {P : Prop} (h : Hid P) : P := h.out
/-- what is drawn is not long -/
def XoOk (L : List Op) : Prop := ∀ o ∈ L, o.ky.size ≤ 1000 ∧ o.dt.size ≤ 100000
theorem XoOk.snoc {L : List Op} (h : XoOk L) {o : Op} (ho : o.ky.size ≤ 1000 ∧ o.dt.size ≤ 100000) : XoOk (L ++ [o]) := fun x hx => by
  rcases List.mem_append.1 hx with hx | hx
  · exact h x hx
  · rw [List.mem_singleton] at hx; subst hx; exact ho
set_option maxRecDepth 20000 in
set_option maxHeartbeats 16000000 in
theorem exOps_all (W0 w : World) (c : Nat) (a : Option Addr) (len cap p : Nat) (h : Src W0 w c a len cap p) (n : Nat) (hn : n ≤ 1000) (hp : p ≤ 100000) :
    Calls Tryz.prog 32 #[.pointer (some ⟨c, 0, none⟩), .int .i64 (n : Int)] w fun e w' => (∃ v L, e = .returned v ∧ L.length = n ∧ OwnOp w' w.heap.size v L ∧ XoOk L) ∧ (∃ p', Src W0 w' c a len cap p' ∧ p' ≤ p + 400 * n) ∧ w.grownBy w' (some c) := by
  have CW : Hid (c < w.heap.size) := h.lt
  have H0 := hid h
  clear h
  go_enter Tryz.func32, Tryz.ntmps32
  go_wp2_with fail
  go_loopw [6, 5] (fun q v wr => ∃ (i : Nat) (V : Value) (L : List Op) (p' : Nat), i ≤ n ∧ q = .int .i64 (i : Int) ∧ V = v ∧ L.length = i ∧ OwnOp wr w.heap.size V L ∧ Src W0 wr c a len cap p' ∧ p' ≤ p + 400 * i ∧ w.grownBy wr (some c) ∧ XoOk L) (fun q _ _ => n - (intOf q).toNat)
  case atStart => exact ⟨0, _, [], p, Nat.zero_le _, rfl, rfl, rfl, OwnOp.empty w w.heap.size (Nat.le_refl _), H0.out.alloc _, Nat.le_refl _, World.grownBy_alloc _ _ _, fun o ho => (by cases ho)⟩
  case round =>
    obtain ⟨i, v, L, p1, hi, rfl, rfl, hL, hO, hS, hp1, hG, hPL⟩ := hrel
    have PL := hid hPL
    have LL := hid hL
    have OO := hid hO
    have SS := hid hS
    have GG := hid hG
    have CL : Hid (c < wr.heap.size) := hS.lt
    clear hL hO hS hG H0 hPL
    by_cases hlt : i < n
    · have d0 : (i : Int) < (n : Int) := by omega
      go_wp2_with fail
      refine dx5_wp W0 wr c a len cap p1 wr SS.out (below_grown (Below.refl _ _) _) CL.out (by omega) ?_
      intro XT XB R2 kd ky p2 w2 hs2 hp2 hg2 hc2
      intros
      rename_i hB2 _ hkz
      have KZ : Hid (ky.size ≤ 3) := hkz
      have XL : Hid (wr.heap.size ≤ XB) := hB2.1
      have Bw2 : Hid (RowAt w2 XB 27 #[.int .i64 kd, .string ky, .string ⟨#[]⟩, .int .i64 0, .int .i64 0, .int .i64 0]) := hB2.2
      have Sw2 := hid hs2
      have Gw2 : Hid (wr.grownBy w2 (some c)) := hg2
      clear hs2 hg2 hc2 hB2 SS hkz
      rename_i ha1 ha2
      clear ha1 ha2
      have k0 := Bw2.out.cell 0
      by_cases h1 : kd = 1
      · subst h1
        go_wp2_with fail
        refine (n_all W0 w2 c a len cap (p2) 14 Sw2.out (by omega) (by omega) (by omega)).mono ?_
        rintro e x11 ⟨⟨r, rfl, hr0, hr1⟩, hsx11, hgx11⟩
        have Sx11 := hid hsx11
        have Gx11 : Hid (wr.grownBy x11 (some c)) := grown_trans Gw2.out hgx11
        have Bx11 := hid (rowF Bw2.out hgx11 (by have := XL.out; have := CL.out; omega))
        clear hsx11 hgx11 Sw2 Gw2 Bw2

        obtain ⟨rn, rfl⟩ := Int.eq_ofNat_of_zero_le hr0
        go_wp2_with fail
        refine (bytes_all W0 x11 c a len cap (p2 + 1) rn Sx11.out (by omega) (by omega)).mono ?_
        rintro e x12 ⟨⟨td, rfl, htd⟩, ⟨p4, hs4, hp4⟩, hg4⟩
        have DZ : Hid (td.size ≤ 13) := by show _ ≤ _; omega
        have Sx12 := hid hs4
        have Gx12 : Hid (wr.grownBy x12 (some c)) := grown_trans Gx11.out hg4
        have Bx12 := hid (rowF Bx11.out hg4 (by have := XL.out; have := CL.out; omega))
        replace hp4 : p4 ≤ p2 + 30 := by omega
        clear hs4 hg4 Sx11 Gx11 Bx11 htd hr0 hr1

        have kc := Bx12.out.cell 2
        have kf := Bx12.out.free 2
        obtain ⟨x13, hw2⟩ : ∃ W, W = x12.setCell ⟨XB, 2, none⟩ (.string td) := ⟨_, rfl⟩
        have Sx13 : Hid (Src W0 x13 c a len cap (p4)) := by rw [hw2]; exact Sx12.out.set (by have := XL.out; have := CL.out; omega) 2 _
        have Gx13 : Hid (wr.grownBy x13 (some c)) := by rw [hw2]; exact grown_farK Gx12.out XL.out 2 _
        have Bx13 : Hid (RowAt x13 XB 27 #[.int .i64 1, .string ky, .string td, .int .i64 0, .int .i64 0, .int .i64 0]) := by rw [hw2]; exact Bx12.out.set 2 _
        have HW := hid hw2
        clear hw2 Sx12 Gx12 Bx12
        go_upto_region 14 with fail
        rw [← HW.out]
        clear HW kc kf

        go_wp2_with fail
        refine (one_all W0 x13 c a len cap (p4) 30 Sx13.out (by omega) (by omega) (by omega)).mono ?_
        rintro e x14 ⟨⟨b, rfl⟩, hsx14, hgx14⟩
        have Sx14 := hid hsx14
        have Gx14 : Hid (wr.grownBy x14 (some c)) := grown_trans Gx13.out hgx14
        have Bx14 := hid (rowF Bx13.out hgx14 (by have := XL.out; have := CL.out; omega))
        clear hsx14 hgx14 Sx13 Gx13 Bx13

        cases b with
        | true =>
          go_wp2_with fail
          refine (n_all W0 x14 c a len cap (p4 + 1) 2 Sx14.out (by omega) (by omega) (by omega)).mono ?_
          rintro e x15 ⟨⟨r, rfl, hr0, hr1⟩, hsx15, hgx15⟩
          have Sx15 := hid hsx15
          have Gx15 : Hid (wr.grownBy x15 (some c)) := grown_trans Gx14.out hgx15
          have Bx15 := hid (rowF Bx14.out hgx15 (by have := XL.out; have := CL.out; omega))
          clear hsx15 hgx15 Sx14 Gx14 Bx14
          obtain ⟨kq, rfl⟩ := Int.eq_ofNat_of_zero_le hr0
          have rb : (kq : Int) ≤ 1000 := by omega

          have kc := Bx15.out.cell 0
          have kf := Bx15.out.free 0
          obtain ⟨x16, hw2⟩ : ∃ W, W = x15.setCell ⟨XB, 0, none⟩ (.int .i64 (9 * (kq : Int))) := ⟨_, rfl⟩
          have Sx16 : Hid (Src W0 x16 c a len cap (p4 + 1 + 1)) := by rw [hw2]; exact Sx15.out.set (by have := XL.out; have := CL.out; omega) 0 _
          have Gx16 : Hid (wr.grownBy x16 (some c)) := by rw [hw2]; exact grown_farK Gx15.out XL.out 0 _
          have Bx16 : Hid (RowAt x16 XB 27 #[.int .i64 (9 * (kq : Int)), .string ky, .string td, .int .i64 0, .int .i64 0, .int .i64 0]) := by rw [hw2]; exact Bx15.out.set 0 _
          have HW := hid hw2
          clear hw2 Sx15 Gx15 Bx15
          go_upto_region 16 with fail
          rw [← HW.out]
          clear HW kc kf

          go_wp2_with fail
          refine (one_all W0 x16 c a len cap (p4 + 1 + 1) 40 Sx16.out (by omega) (by omega) (by omega)).mono ?_
          rintro e x17 ⟨⟨b, rfl⟩, hsx17, hgx17⟩
          have Sx17 := hid hsx17
          have Gx17 : Hid (wr.grownBy x17 (some c)) := grown_trans Gx16.out hgx17
          have Bx17 := hid (rowF Bx16.out hgx17 (by have := XL.out; have := CL.out; omega))
          clear hsx17 hgx17 Sx16 Gx16 Bx16

          cases b with
          | true =>
            have kc := Bx17.out.cell 1
            have kf := Bx17.out.free 1
            obtain ⟨x18, hw2⟩ : ∃ W, W = x17.setCell ⟨XB, 1, none⟩ (.string ⟨#[]⟩) := ⟨_, rfl⟩
            have Sx18 : Hid (Src W0 x18 c a len cap (p4 + 1 + 1 + 1)) := by rw [hw2]; exact Sx17.out.set (by have := XL.out; have := CL.out; omega) 1 _
            have Gx18 : Hid (wr.grownBy x18 (some c)) := by rw [hw2]; exact grown_farK Gx17.out XL.out 1 _
            have Bx18 : Hid (RowAt x18 XB 27 #[.int .i64 (9 * (kq : Int)), .string ⟨#[]⟩, .string td, .int .i64 0, .int .i64 0, .int .i64 0]) := by rw [hw2]; exact Bx17.out.set 1 _
            have HW := hid hw2
            clear hw2 Sx17 Gx17 Bx17
            go_upto_region 18 with fail
            rw [← HW.out]
            clear HW kc kf

            have O8 : Hid (OwnOp x18 w.heap.size v L) := orKeep OO.out fun g cs e r => (Gx18.out.block g r.lt (fun e2 => by have := (orRow OO.out e).1; have := CW.out; cases e2; omega)).trans r
            have z0 := Bx18.out.cell 0
            have z1 := Bx18.out.cell 1
            have z2 := Bx18.out.cell 2
            have z3 := Bx18.out.cell 3
            have z4 := Bx18.out.cell 4
            have z5 := Bx18.out.cell 5
            have WZ : Hid (w.heap.size ≤ x18.heap.size) := Nat.le_trans GG.out.size Gx18.out.size
            go_wp2_with (at_builtin; refine lockO ?_)
            refine hid ?_
            refine append_op w.heap.size x18 rfl (.tmp 54) (.tmp 56) rfl v L ⟨(9 * (kq : Int)), ⟨#[]⟩, td, 0, 0, 0⟩ rfl O8.out WZ.out rfl (by have := LL.out; omega) ?_
            intro v9 w9 hO9 hg9
            have ne9 : some c ≠ v.ownBlock := fun e => by have := (orRow O8.out e.symm).1; have := CW.out; omega
            have S9 : Hid (Src W0 w9 c a len cap (p4 + 1 + 1 + 1)) := Sx18.out.far hg9 ne9 (fun g e => by have := (orRow O8.out e).1; have := Sx18.out.2.2.2.2; have := CW.out; omega)
            have G9 : Hid (w.grownBy w9 (some c)) := by
              refine ⟨hg9.os.trans (Gx18.out.os.trans GG.out.os), hg9.tape.trans (Gx18.out.tape.trans GG.out.tape), hg9.output.trans (Gx18.out.output.trans GG.out.output), Nat.le_trans GG.out.size (Nat.le_trans Gx18.out.size hg9.size), fun k hk hne => ?_⟩
              rw [hg9.block k (Nat.lt_of_lt_of_le hk WZ.out) (fun e => by have := (orRow O8.out e.symm).1; omega), Gx18.out.block k (Nat.lt_of_lt_of_le hk GG.out.size) hne, GG.out.block k hk hne]
            have O9 := hid hO9
            clear hO9 hg9 ne9 z0 z1 z2 z3 z4 z5 O8 Sx18 Gx18 Bx18 OO GG
            go_wp2
            go_roundw
            case rel => exact ⟨i + 1, _, L ++ [⟨(9 * (kq : Int)), ⟨#[]⟩, td, 0, 0, 0⟩], p4 + 1 + 1 + 1, by omega, by go_num, rfl, by rw [List.length_append, LL.out]; rfl, O9.out, S9.out, by omega, G9.out, PL.out.snoc ⟨(by show (0 : Nat) ≤ 1000; omega), Nat.le_trans DZ.out (by decide)⟩⟩
            case measure => simp [intOf]; omega
          | false =>
            have O8 : Hid (OwnOp x17 w.heap.size v L) := orKeep OO.out fun g cs e r => (Gx17.out.block g r.lt (fun e2 => by have := (orRow OO.out e).1; have := CW.out; cases e2; omega)).trans r
            have z0 := Bx17.out.cell 0
            have z1 := Bx17.out.cell 1
            have z2 := Bx17.out.cell 2
            have z3 := Bx17.out.cell 3
            have z4 := Bx17.out.cell 4
            have z5 := Bx17.out.cell 5
            have WZ : Hid (w.heap.size ≤ x17.heap.size) := Nat.le_trans GG.out.size Gx17.out.size
            go_wp2_with (at_builtin; refine lockO ?_)
            refine hid ?_
            refine append_op w.heap.size x17 rfl (.tmp 54) (.tmp 56) rfl v L ⟨(9 * (kq : Int)), ky, td, 0, 0, 0⟩ rfl O8.out WZ.out rfl (by have := LL.out; omega) ?_
            intro v9 w9 hO9 hg9
            have ne9 : some c ≠ v.ownBlock := fun e => by have := (orRow O8.out e.symm).1; have := CW.out; omega
            have S9 : Hid (Src W0 w9 c a len cap (p4 + 1 + 1 + 1)) := Sx17.out.far hg9 ne9 (fun g e => by have := (orRow O8.out e).1; have := Sx17.out.2.2.2.2; have := CW.out; omega)
            have G9 : Hid (w.grownBy w9 (some c)) := by
              refine ⟨hg9.os.trans (Gx17.out.os.trans GG.out.os), hg9.tape.trans (Gx17.out.tape.trans GG.out.tape), hg9.output.trans (Gx17.out.output.trans GG.out.output), Nat.le_trans GG.out.size (Nat.le_trans Gx17.out.size hg9.size), fun k hk hne => ?_⟩
              rw [hg9.block k (Nat.lt_of_lt_of_le hk WZ.out) (fun e => by have := (orRow O8.out e.symm).1; omega), Gx17.out.block k (Nat.lt_of_lt_of_le hk GG.out.size) hne, GG.out.block k hk hne]
            have O9 := hid hO9
            clear hO9 hg9 ne9 z0 z1 z2 z3 z4 z5 O8 Sx17 Gx17 Bx17 OO GG
            go_wp2
            go_roundw
            case rel => exact ⟨i + 1, _, L ++ [⟨(9 * (kq : Int)), ky, td, 0, 0, 0⟩], p4 + 1 + 1 + 1, by omega, by go_num, rfl, by rw [List.length_append, LL.out]; rfl, O9.out, S9.out, by omega, G9.out, PL.out.snoc ⟨Nat.le_trans KZ.out (by decide), Nat.le_trans DZ.out (by decide)⟩⟩
            case measure => simp [intOf]; omega
        | false =>
          go_wp2_with fail
          refine (one_all W0 x14 c a len cap (p4 + 1) 40 Sx14.out (by omega) (by omega) (by omega)).mono ?_
          rintro e x19 ⟨⟨b, rfl⟩, hsx19, hgx19⟩
          have Sx19 := hid hsx19
          have Gx19 : Hid (wr.grownBy x19 (some c)) := grown_trans Gx14.out hgx19
          have Bx19 := hid (rowF Bx14.out hgx19 (by have := XL.out; have := CL.out; omega))
          clear hsx19 hgx19 Sx14 Gx14 Bx14

          cases b with
          | true =>
            have kc := Bx19.out.cell 1
            have kf := Bx19.out.free 1
            obtain ⟨x20, hw2⟩ : ∃ W, W = x19.setCell ⟨XB, 1, none⟩ (.string ⟨#[]⟩) := ⟨_, rfl⟩
            have Sx20 : Hid (Src W0 x20 c a len cap (p4 + 1 + 1)) := by rw [hw2]; exact Sx19.out.set (by have := XL.out; have := CL.out; omega) 1 _
            have Gx20 : Hid (wr.grownBy x20 (some c)) := by rw [hw2]; exact grown_farK Gx19.out XL.out 1 _
            have Bx20 : Hid (RowAt x20 XB 27 #[.int .i64 1, .string ⟨#[]⟩, .string td, .int .i64 0, .int .i64 0, .int .i64 0]) := by rw [hw2]; exact Bx19.out.set 1 _
            have HW := hid hw2
            clear hw2 Sx19 Gx19 Bx19
            go_upto_region 18 with fail
            rw [← HW.out]
            clear HW kc kf

            have O8 : Hid (OwnOp x20 w.heap.size v L) := orKeep OO.out fun g cs e r => (Gx20.out.block g r.lt (fun e2 => by have := (orRow OO.out e).1; have := CW.out; cases e2; omega)).trans r
            have z0 := Bx20.out.cell 0
            have z1 := Bx20.out.cell 1
            have z2 := Bx20.out.cell 2
            have z3 := Bx20.out.cell 3
            have z4 := Bx20.out.cell 4
            have z5 := Bx20.out.cell 5
            have WZ : Hid (w.heap.size ≤ x20.heap.size) := Nat.le_trans GG.out.size Gx20.out.size
            go_wp2_with (at_builtin; refine lockO ?_)
            refine hid ?_
            refine append_op w.heap.size x20 rfl (.tmp 54) (.tmp 56) rfl v L ⟨1, ⟨#[]⟩, td, 0, 0, 0⟩ rfl O8.out WZ.out rfl (by have := LL.out; omega) ?_
            intro v9 w9 hO9 hg9
            have ne9 : some c ≠ v.ownBlock := fun e => by have := (orRow O8.out e.symm).1; have := CW.out; omega
            have S9 : Hid (Src W0 w9 c a len cap (p4 + 1 + 1)) := Sx20.out.far hg9 ne9 (fun g e => by have := (orRow O8.out e).1; have := Sx20.out.2.2.2.2; have := CW.out; omega)
            have G9 : Hid (w.grownBy w9 (some c)) := by
              refine ⟨hg9.os.trans (Gx20.out.os.trans GG.out.os), hg9.tape.trans (Gx20.out.tape.trans GG.out.tape), hg9.output.trans (Gx20.out.output.trans GG.out.output), Nat.le_trans GG.out.size (Nat.le_trans Gx20.out.size hg9.size), fun k hk hne => ?_⟩
              rw [hg9.block k (Nat.lt_of_lt_of_le hk WZ.out) (fun e => by have := (orRow O8.out e.symm).1; omega), Gx20.out.block k (Nat.lt_of_lt_of_le hk GG.out.size) hne, GG.out.block k hk hne]
            have O9 := hid hO9
            clear hO9 hg9 ne9 z0 z1 z2 z3 z4 z5 O8 Sx20 Gx20 Bx20 OO GG
            go_wp2
            go_roundw
            case rel => exact ⟨i + 1, _, L ++ [⟨1, ⟨#[]⟩, td, 0, 0, 0⟩], p4 + 1 + 1, by omega, by go_num, rfl, by rw [List.length_append, LL.out]; rfl, O9.out, S9.out, by omega, G9.out, PL.out.snoc ⟨(by show (0 : Nat) ≤ 1000; omega), Nat.le_trans DZ.out (by decide)⟩⟩
            case measure => simp [intOf]; omega
          | false =>
            have O8 : Hid (OwnOp x19 w.heap.size v L) := orKeep OO.out fun g cs e r => (Gx19.out.block g r.lt (fun e2 => by have := (orRow OO.out e).1; have := CW.out; cases e2; omega)).trans r
            have z0 := Bx19.out.cell 0
            have z1 := Bx19.out.cell 1
            have z2 := Bx19.out.cell 2
            have z3 := Bx19.out.cell 3
            have z4 := Bx19.out.cell 4
            have z5 := Bx19.out.cell 5
            have WZ : Hid (w.heap.size ≤ x19.heap.size) := Nat.le_trans GG.out.size Gx19.out.size
            go_wp2_with (at_builtin; refine lockO ?_)
            refine hid ?_
            refine append_op w.heap.size x19 rfl (.tmp 54) (.tmp 56) rfl v L ⟨1, ky, td, 0, 0, 0⟩ rfl O8.out WZ.out rfl (by have := LL.out; omega) ?_
            intro v9 w9 hO9 hg9
            have ne9 : some c ≠ v.ownBlock := fun e => by have := (orRow O8.out e.symm).1; have := CW.out; omega
            have S9 : Hid (Src W0 w9 c a len cap (p4 + 1 + 1)) := Sx19.out.far hg9 ne9 (fun g e => by have := (orRow O8.out e).1; have := Sx19.out.2.2.2.2; have := CW.out; omega)
            have G9 : Hid (w.grownBy w9 (some c)) := by
              refine ⟨hg9.os.trans (Gx19.out.os.trans GG.out.os), hg9.tape.trans (Gx19.out.tape.trans GG.out.tape), hg9.output.trans (Gx19.out.output.trans GG.out.output), Nat.le_trans GG.out.size (Nat.le_trans Gx19.out.size hg9.size), fun k hk hne => ?_⟩
              rw [hg9.block k (Nat.lt_of_lt_of_le hk WZ.out) (fun e => by have := (orRow O8.out e.symm).1; omega), Gx19.out.block k (Nat.lt_of_lt_of_le hk GG.out.size) hne, GG.out.block k hk hne]
            have O9 := hid hO9
            clear hO9 hg9 ne9 z0 z1 z2 z3 z4 z5 O8 Sx19 Gx19 Bx19 OO GG
            go_wp2
            go_roundw
            case rel => exact ⟨i + 1, _, L ++ [⟨1, ky, td, 0, 0, 0⟩], p4 + 1 + 1, by omega, by go_num, rfl, by rw [List.length_append, LL.out]; rfl, O9.out, S9.out, by omega, G9.out, PL.out.snoc ⟨Nat.le_trans KZ.out (by decide), Nat.le_trans DZ.out (by decide)⟩⟩
            case measure => simp [intOf]; omega
      by_cases h4 : kd = 4
      · subst h4
        go_wp2_with fail
        refine (n_all W0 w2 c a len cap (p2) 60 Sw2.out (by omega) (by omega) (by omega)).mono ?_
        rintro e x21 ⟨⟨r, rfl, hr0, hr1⟩, hsx21, hgx21⟩
        have Sx21 := hid hsx21
        have Gx21 : Hid (wr.grownBy x21 (some c)) := grown_trans Gw2.out hgx21
        have Bx21 := hid (rowF Bw2.out hgx21 (by have := XL.out; have := CL.out; omega))
        clear hsx21 hgx21 Sw2 Gw2 Bw2
        obtain ⟨r4, rfl⟩ := Int.eq_ofNat_of_zero_le hr0
        have r4b : (r4 : Int) ≤ 60 := by omega

        have kc := Bx21.out.cell 3
        have kf := Bx21.out.free 3
        obtain ⟨x22, hw2⟩ : ∃ W, W = x21.setCell ⟨XB, 3, none⟩ (.int .i64 ((r4 : Int) - 2)) := ⟨_, rfl⟩
        have Sx22 : Hid (Src W0 x22 c a len cap (p2 + 1)) := by rw [hw2]; exact Sx21.out.set (by have := XL.out; have := CL.out; omega) 3 _
        have Gx22 : Hid (wr.grownBy x22 (some c)) := by rw [hw2]; exact grown_farK Gx21.out XL.out 3 _
        have Bx22 : Hid (RowAt x22 XB 27 #[.int .i64 4, .string ky, .string ⟨#[]⟩, .int .i64 ((r4 : Int) - 2), .int .i64 0, .int .i64 0]) := by rw [hw2]; exact Bx21.out.set 3 _
        have HW := hid hw2
        clear hw2 Sx21 Gx21 Bx21
        go_upto_region 14 with fail
        rw [← HW.out]
        clear HW kc kf

        go_wp2_with fail
        refine (one_all W0 x22 c a len cap (p2 + 1) 30 Sx22.out (by omega) (by omega) (by omega)).mono ?_
        rintro e x23 ⟨⟨b, rfl⟩, hsx23, hgx23⟩
        have Sx23 := hid hsx23
        have Gx23 : Hid (wr.grownBy x23 (some c)) := grown_trans Gx22.out hgx23
        have Bx23 := hid (rowF Bx22.out hgx23 (by have := XL.out; have := CL.out; omega))
        clear hsx23 hgx23 Sx22 Gx22 Bx22

        cases b with
        | true =>
          go_wp2_with fail
          refine (n_all W0 x23 c a len cap (p2 + 1 + 1) 2 Sx23.out (by omega) (by omega) (by omega)).mono ?_
          rintro e x24 ⟨⟨r, rfl, hr0, hr1⟩, hsx24, hgx24⟩
          have Sx24 := hid hsx24
          have Gx24 : Hid (wr.grownBy x24 (some c)) := grown_trans Gx23.out hgx24
          have Bx24 := hid (rowF Bx23.out hgx24 (by have := XL.out; have := CL.out; omega))
          clear hsx24 hgx24 Sx23 Gx23 Bx23
          obtain ⟨kq, rfl⟩ := Int.eq_ofNat_of_zero_le hr0
          have rb : (kq : Int) ≤ 1000 := by omega

          have kc := Bx24.out.cell 0
          have kf := Bx24.out.free 0
          obtain ⟨x25, hw2⟩ : ∃ W, W = x24.setCell ⟨XB, 0, none⟩ (.int .i64 (9 * (kq : Int))) := ⟨_, rfl⟩
          have Sx25 : Hid (Src W0 x25 c a len cap (p2 + 1 + 1 + 1)) := by rw [hw2]; exact Sx24.out.set (by have := XL.out; have := CL.out; omega) 0 _
          have Gx25 : Hid (wr.grownBy x25 (some c)) := by rw [hw2]; exact grown_farK Gx24.out XL.out 0 _
          have Bx25 : Hid (RowAt x25 XB 27 #[.int .i64 (9 * (kq : Int)), .string ky, .string ⟨#[]⟩, .int .i64 ((r4 : Int) - 2), .int .i64 0, .int .i64 0]) := by rw [hw2]; exact Bx24.out.set 0 _
          have HW := hid hw2
          clear hw2 Sx24 Gx24 Bx24
          go_upto_region 16 with fail
          rw [← HW.out]
          clear HW kc kf

          go_wp2_with fail
          refine (one_all W0 x25 c a len cap (p2 + 1 + 1 + 1) 40 Sx25.out (by omega) (by omega) (by omega)).mono ?_
          rintro e x26 ⟨⟨b, rfl⟩, hsx26, hgx26⟩
          have Sx26 := hid hsx26
          have Gx26 : Hid (wr.grownBy x26 (some c)) := grown_trans Gx25.out hgx26
          have Bx26 := hid (rowF Bx25.out hgx26 (by have := XL.out; have := CL.out; omega))
          clear hsx26 hgx26 Sx25 Gx25 Bx25

          cases b with
          | true =>
            have kc := Bx26.out.cell 1
            have kf := Bx26.out.free 1
            obtain ⟨x27, hw2⟩ : ∃ W, W = x26.setCell ⟨XB, 1, none⟩ (.string ⟨#[]⟩) := ⟨_, rfl⟩
            have Sx27 : Hid (Src W0 x27 c a len cap (p2 + 1 + 1 + 1 + 1)) := by rw [hw2]; exact Sx26.out.set (by have := XL.out; have := CL.out; omega) 1 _
            have Gx27 : Hid (wr.grownBy x27 (some c)) := by rw [hw2]; exact grown_farK Gx26.out XL.out 1 _
            have Bx27 : Hid (RowAt x27 XB 27 #[.int .i64 (9 * (kq : Int)), .string ⟨#[]⟩, .string ⟨#[]⟩, .int .i64 ((r4 : Int) - 2), .int .i64 0, .int .i64 0]) := by rw [hw2]; exact Bx26.out.set 1 _
            have HW := hid hw2
            clear hw2 Sx26 Gx26 Bx26
            go_upto_region 18 with fail
            rw [← HW.out]
            clear HW kc kf

            have O8 : Hid (OwnOp x27 w.heap.size v L) := orKeep OO.out fun g cs e r => (Gx27.out.block g r.lt (fun e2 => by have := (orRow OO.out e).1; have := CW.out; cases e2; omega)).trans r
            have z0 := Bx27.out.cell 0
            have z1 := Bx27.out.cell 1
            have z2 := Bx27.out.cell 2
            have z3 := Bx27.out.cell 3
            have z4 := Bx27.out.cell 4
            have z5 := Bx27.out.cell 5
            have WZ : Hid (w.heap.size ≤ x27.heap.size) := Nat.le_trans GG.out.size Gx27.out.size
            go_wp2_with (at_builtin; refine lockO ?_)
            refine hid ?_
            refine append_op w.heap.size x27 rfl (.tmp 54) (.tmp 56) rfl v L ⟨(9 * (kq : Int)), ⟨#[]⟩, ⟨#[]⟩, ((r4 : Int) - 2), 0, 0⟩ rfl O8.out WZ.out rfl (by have := LL.out; omega) ?_
            intro v9 w9 hO9 hg9
            have ne9 : some c ≠ v.ownBlock := fun e => by have := (orRow O8.out e.symm).1; have := CW.out; omega
            have S9 : Hid (Src W0 w9 c a len cap (p2 + 1 + 1 + 1 + 1)) := Sx27.out.far hg9 ne9 (fun g e => by have := (orRow O8.out e).1; have := Sx27.out.2.2.2.2; have := CW.out; omega)
            have G9 : Hid (w.grownBy w9 (some c)) := by
              refine ⟨hg9.os.trans (Gx27.out.os.trans GG.out.os), hg9.tape.trans (Gx27.out.tape.trans GG.out.tape), hg9.output.trans (Gx27.out.output.trans GG.out.output), Nat.le_trans GG.out.size (Nat.le_trans Gx27.out.size hg9.size), fun k hk hne => ?_⟩
              rw [hg9.block k (Nat.lt_of_lt_of_le hk WZ.out) (fun e => by have := (orRow O8.out e.symm).1; omega), Gx27.out.block k (Nat.lt_of_lt_of_le hk GG.out.size) hne, GG.out.block k hk hne]
            have O9 := hid hO9
            clear hO9 hg9 ne9 z0 z1 z2 z3 z4 z5 O8 Sx27 Gx27 Bx27 OO GG
            go_wp2
            go_roundw
            case rel => exact ⟨i + 1, _, L ++ [⟨(9 * (kq : Int)), ⟨#[]⟩, ⟨#[]⟩, ((r4 : Int) - 2), 0, 0⟩], p2 + 1 + 1 + 1 + 1, by omega, by go_num, rfl, by rw [List.length_append, LL.out]; rfl, O9.out, S9.out, by omega, G9.out, PL.out.snoc ⟨(by show (0 : Nat) ≤ 1000; omega), (by show (0 : Nat) ≤ 100000; omega)⟩⟩
            case measure => simp [intOf]; omega
          | false =>
            have O8 : Hid (OwnOp x26 w.heap.size v L) := orKeep OO.out fun g cs e r => (Gx26.out.block g r.lt (fun e2 => by have := (orRow OO.out e).1; have := CW.out; cases e2; omega)).trans r
            have z0 := Bx26.out.cell 0
            have z1 := Bx26.out.cell 1
            have z2 := Bx26.out.cell 2
            have z3 := Bx26.out.cell 3
            have z4 := Bx26.out.cell 4
            have z5 := Bx26.out.cell 5
            have WZ : Hid (w.heap.size ≤ x26.heap.size) := Nat.le_trans GG.out.size Gx26.out.size
            go_wp2_with (at_builtin; refine lockO ?_)
            refine hid ?_
            refine append_op w.heap.size x26 rfl (.tmp 54) (.tmp 56) rfl v L ⟨(9 * (kq : Int)), ky, ⟨#[]⟩, ((r4 : Int) - 2), 0, 0⟩ rfl O8.out WZ.out rfl (by have := LL.out; omega) ?_
            intro v9 w9 hO9 hg9
            have ne9 : some c ≠ v.ownBlock := fun e => by have := (orRow O8.out e.symm).1; have := CW.out; omega
            have S9 : Hid (Src W0 w9 c a len cap (p2 + 1 + 1 + 1 + 1)) := Sx26.out.far hg9 ne9 (fun g e => by have := (orRow O8.out e).1; have := Sx26.out.2.2.2.2; have := CW.out; omega)
            have G9 : Hid (w.grownBy w9 (some c)) := by
              refine ⟨hg9.os.trans (Gx26.out.os.trans GG.out.os), hg9.tape.trans (Gx26.out.tape.trans GG.out.tape), hg9.output.trans (Gx26.out.output.trans GG.out.output), Nat.le_trans GG.out.size (Nat.le_trans Gx26.out.size hg9.size), fun k hk hne => ?_⟩
              rw [hg9.block k (Nat.lt_of_lt_of_le hk WZ.out) (fun e => by have := (orRow O8.out e.symm).1; omega), Gx26.out.block k (Nat.lt_of_lt_of_le hk GG.out.size) hne, GG.out.block k hk hne]
            have O9 := hid hO9
            clear hO9 hg9 ne9 z0 z1 z2 z3 z4 z5 O8 Sx26 Gx26 Bx26 OO GG
            go_wp2
            go_roundw
            case rel => exact ⟨i + 1, _, L ++ [⟨(9 * (kq : Int)), ky, ⟨#[]⟩, ((r4 : Int) - 2), 0, 0⟩], p2 + 1 + 1 + 1 + 1, by omega, by go_num, rfl, by rw [List.length_append, LL.out]; rfl, O9.out, S9.out, by omega, G9.out, PL.out.snoc ⟨Nat.le_trans KZ.out (by decide), (by show (0 : Nat) ≤ 100000; omega)⟩⟩
            case measure => simp [intOf]; omega
        | false =>
          go_wp2_with fail
          refine (one_all W0 x23 c a len cap (p2 + 1 + 1) 40 Sx23.out (by omega) (by omega) (by omega)).mono ?_
          rintro e x28 ⟨⟨b, rfl⟩, hsx28, hgx28⟩
          have Sx28 := hid hsx28
          have Gx28 : Hid (wr.grownBy x28 (some c)) := grown_trans Gx23.out hgx28
          have Bx28 := hid (rowF Bx23.out hgx28 (by have := XL.out; have := CL.out; omega))
          clear hsx28 hgx28 Sx23 Gx23 Bx23

          cases b with
          | true =>
            have kc := Bx28.out.cell 1
            have kf := Bx28.out.free 1
            obtain ⟨x29, hw2⟩ : ∃ W, W = x28.setCell ⟨XB, 1, none⟩ (.string ⟨#[]⟩) := ⟨_, rfl⟩
            have Sx29 : Hid (Src W0 x29 c a len cap (p2 + 1 + 1 + 1)) := by rw [hw2]; exact Sx28.out.set (by have := XL.out; have := CL.out; omega) 1 _
            have Gx29 : Hid (wr.grownBy x29 (some c)) := by rw [hw2]; exact grown_farK Gx28.out XL.out 1 _
            have Bx29 : Hid (RowAt x29 XB 27 #[.int .i64 4, .string ⟨#[]⟩, .string ⟨#[]⟩, .int .i64 ((r4 : Int) - 2), .int .i64 0, .int .i64 0]) := by rw [hw2]; exact Bx28.out.set 1 _
            have HW := hid hw2
            clear hw2 Sx28 Gx28 Bx28
            go_upto_region 18 with fail
            rw [← HW.out]
            clear HW kc kf

            have O8 : Hid (OwnOp x29 w.heap.size v L) := orKeep OO.out fun g cs e r => (Gx29.out.block g r.lt (fun e2 => by have := (orRow OO.out e).1; have := CW.out; cases e2; omega)).trans r
            have z0 := Bx29.out.cell 0
            have z1 := Bx29.out.cell 1
            have z2 := Bx29.out.cell 2
            have z3 := Bx29.out.cell 3
            have z4 := Bx29.out.cell 4
            have z5 := Bx29.out.cell 5
            have WZ : Hid (w.heap.size ≤ x29.heap.size) := Nat.le_trans GG.out.size Gx29.out.size
            go_wp2_with (at_builtin; refine lockO ?_)
            refine hid ?_
            refine append_op w.heap.size x29 rfl (.tmp 54) (.tmp 56) rfl v L ⟨4, ⟨#[]⟩, ⟨#[]⟩, ((r4 : Int) - 2), 0, 0⟩ rfl O8.out WZ.out rfl (by have := LL.out; omega) ?_
            intro v9 w9 hO9 hg9
            have ne9 : some c ≠ v.ownBlock := fun e => by have := (orRow O8.out e.symm).1; have := CW.out; omega
            have S9 : Hid (Src W0 w9 c a len cap (p2 + 1 + 1 + 1)) := Sx29.out.far hg9 ne9 (fun g e => by have := (orRow O8.out e).1; have := Sx29.out.2.2.2.2; have := CW.out; omega)
            have G9 : Hid (w.grownBy w9 (some c)) := by
              refine ⟨hg9.os.trans (Gx29.out.os.trans GG.out.os), hg9.tape.trans (Gx29.out.tape.trans GG.out.tape), hg9.output.trans (Gx29.out.output.trans GG.out.output), Nat.le_trans GG.out.size (Nat.le_trans Gx29.out.size hg9.size), fun k hk hne => ?_⟩
              rw [hg9.block k (Nat.lt_of_lt_of_le hk WZ.out) (fun e => by have := (orRow O8.out e.symm).1; omega), Gx29.out.block k (Nat.lt_of_lt_of_le hk GG.out.size) hne, GG.out.block k hk hne]
            have O9 := hid hO9
            clear hO9 hg9 ne9 z0 z1 z2 z3 z4 z5 O8 Sx29 Gx29 Bx29 OO GG
            go_wp2
            go_roundw
            case rel => exact ⟨i + 1, _, L ++ [⟨4, ⟨#[]⟩, ⟨#[]⟩, ((r4 : Int) - 2), 0, 0⟩], p2 + 1 + 1 + 1, by omega, by go_num, rfl, by rw [List.length_append, LL.out]; rfl, O9.out, S9.out, by omega, G9.out, PL.out.snoc ⟨(by show (0 : Nat) ≤ 1000; omega), (by show (0 : Nat) ≤ 100000; omega)⟩⟩
            case measure => simp [intOf]; omega
          | false =>
            have O8 : Hid (OwnOp x28 w.heap.size v L) := orKeep OO.out fun g cs e r => (Gx28.out.block g r.lt (fun e2 => by have := (orRow OO.out e).1; have := CW.out; cases e2; omega)).trans r
            have z0 := Bx28.out.cell 0
            have z1 := Bx28.out.cell 1
            have z2 := Bx28.out.cell 2
            have z3 := Bx28.out.cell 3
            have z4 := Bx28.out.cell 4
            have z5 := Bx28.out.cell 5
            have WZ : Hid (w.heap.size ≤ x28.heap.size) := Nat.le_trans GG.out.size Gx28.out.size
            go_wp2_with (at_builtin; refine lockO ?_)
            refine hid ?_
            refine append_op w.heap.size x28 rfl (.tmp 54) (.tmp 56) rfl v L ⟨4, ky, ⟨#[]⟩, ((r4 : Int) - 2), 0, 0⟩ rfl O8.out WZ.out rfl (by have := LL.out; omega) ?_
            intro v9 w9 hO9 hg9
            have ne9 : some c ≠ v.ownBlock := fun e => by have := (orRow O8.out e.symm).1; have := CW.out; omega
            have S9 : Hid (Src W0 w9 c a len cap (p2 + 1 + 1 + 1)) := Sx28.out.far hg9 ne9 (fun g e => by have := (orRow O8.out e).1; have := Sx28.out.2.2.2.2; have := CW.out; omega)
            have G9 : Hid (w.grownBy w9 (some c)) := by
              refine ⟨hg9.os.trans (Gx28.out.os.trans GG.out.os), hg9.tape.trans (Gx28.out.tape.trans GG.out.tape), hg9.output.trans (Gx28.out.output.trans GG.out.output), Nat.le_trans GG.out.size (Nat.le_trans Gx28.out.size hg9.size), fun k hk hne => ?_⟩
              rw [hg9.block k (Nat.lt_of_lt_of_le hk WZ.out) (fun e => by have := (orRow O8.out e.symm).1; omega), Gx28.out.block k (Nat.lt_of_lt_of_le hk GG.out.size) hne, GG.out.block k hk hne]
            have O9 := hid hO9
            clear hO9 hg9 ne9 z0 z1 z2 z3 z4 z5 O8 Sx28 Gx28 Bx28 OO GG
            go_wp2
            go_roundw
            case rel => exact ⟨i + 1, _, L ++ [⟨4, ky, ⟨#[]⟩, ((r4 : Int) - 2), 0, 0⟩], p2 + 1 + 1 + 1, by omega, by go_num, rfl, by rw [List.length_append, LL.out]; rfl, O9.out, S9.out, by omega, G9.out, PL.out.snoc ⟨Nat.le_trans KZ.out (by decide), (by show (0 : Nat) ≤ 100000; omega)⟩⟩
            case measure => simp [intOf]; omega
      by_cases h5 : kd = 5
      · subst h5
        go_wp2_with fail
        refine (n_all W0 w2 c a len cap (p2) 80 Sw2.out (by omega) (by omega) (by omega)).mono ?_
        rintro e x30 ⟨⟨r, rfl, hr0, hr1⟩, hsx30, hgx30⟩
        have Sx30 := hid hsx30
        have Gx30 : Hid (wr.grownBy x30 (some c)) := grown_trans Gw2.out hgx30
        have Bx30 := hid (rowF Bw2.out hgx30 (by have := XL.out; have := CL.out; omega))
        clear hsx30 hgx30 Sw2 Gw2 Bw2
        obtain ⟨r5, rfl⟩ := Int.eq_ofNat_of_zero_le hr0

        have kc := Bx30.out.cell 4
        have kf := Bx30.out.free 4
        obtain ⟨x31, hw2⟩ : ∃ W, W = x30.setCell ⟨XB, 4, none⟩ (.int .i64 (r5 : Int)) := ⟨_, rfl⟩
        have Sx31 : Hid (Src W0 x31 c a len cap (p2 + 1)) := by rw [hw2]; exact Sx30.out.set (by have := XL.out; have := CL.out; omega) 4 _
        have Gx31 : Hid (wr.grownBy x31 (some c)) := by rw [hw2]; exact grown_farK Gx30.out XL.out 4 _
        have Bx31 : Hid (RowAt x31 XB 27 #[.int .i64 5, .string ky, .string ⟨#[]⟩, .int .i64 0, .int .i64 (r5 : Int), .int .i64 0]) := by rw [hw2]; exact Bx30.out.set 4 _
        have HW := hid hw2
        clear hw2 Sx30 Gx30 Bx30
        go_upto_region 13 with fail
        rw [← HW.out]
        clear HW kc kf

        go_wp2_with fail
        refine (n_all W0 x31 c a len cap (p2 + 1) 257 Sx31.out (by omega) (by omega) (by omega)).mono ?_
        rintro e x32 ⟨⟨r, rfl, hr0, hr1⟩, hsx32, hgx32⟩
        have Sx32 := hid hsx32
        have Gx32 : Hid (wr.grownBy x32 (some c)) := grown_trans Gx31.out hgx32
        have Bx32 := hid (rowF Bx31.out hgx32 (by have := XL.out; have := CL.out; omega))
        clear hsx32 hgx32 Sx31 Gx31 Bx31
        obtain ⟨r6, rfl⟩ := Int.eq_ofNat_of_zero_le hr0

        have kc := Bx32.out.cell 5
        have kf := Bx32.out.free 5
        obtain ⟨x33, hw2⟩ : ∃ W, W = x32.setCell ⟨XB, 5, none⟩ (.int .i64 (r6 : Int)) := ⟨_, rfl⟩
        have Sx33 : Hid (Src W0 x33 c a len cap (p2 + 1 + 1)) := by rw [hw2]; exact Sx32.out.set (by have := XL.out; have := CL.out; omega) 5 _
        have Gx33 : Hid (wr.grownBy x33 (some c)) := by rw [hw2]; exact grown_farK Gx32.out XL.out 5 _
        have Bx33 : Hid (RowAt x33 XB 27 #[.int .i64 5, .string ky, .string ⟨#[]⟩, .int .i64 0, .int .i64 (r5 : Int), .int .i64 (r6 : Int)]) := by rw [hw2]; exact Bx32.out.set 5 _
        have HW := hid hw2
        clear hw2 Sx32 Gx32 Bx32
        go_upto_region 14 with fail
        rw [← HW.out]
        clear HW kc kf

        go_wp2_with fail
        refine (one_all W0 x33 c a len cap (p2 + 1 + 1) 30 Sx33.out (by omega) (by omega) (by omega)).mono ?_
        rintro e x34 ⟨⟨b, rfl⟩, hsx34, hgx34⟩
        have Sx34 := hid hsx34
        have Gx34 : Hid (wr.grownBy x34 (some c)) := grown_trans Gx33.out hgx34
        have Bx34 := hid (rowF Bx33.out hgx34 (by have := XL.out; have := CL.out; omega))
        clear hsx34 hgx34 Sx33 Gx33 Bx33

        cases b with
        | true =>
          go_wp2_with fail
          refine (n_all W0 x34 c a len cap (p2 + 1 + 1 + 1) 2 Sx34.out (by omega) (by omega) (by omega)).mono ?_
          rintro e x35 ⟨⟨r, rfl, hr0, hr1⟩, hsx35, hgx35⟩
          have Sx35 := hid hsx35
          have Gx35 : Hid (wr.grownBy x35 (some c)) := grown_trans Gx34.out hgx35
          have Bx35 := hid (rowF Bx34.out hgx35 (by have := XL.out; have := CL.out; omega))
          clear hsx35 hgx35 Sx34 Gx34 Bx34
          obtain ⟨kq, rfl⟩ := Int.eq_ofNat_of_zero_le hr0
          have rb : (kq : Int) ≤ 1000 := by omega

          have kc := Bx35.out.cell 0
          have kf := Bx35.out.free 0
          obtain ⟨x36, hw2⟩ : ∃ W, W = x35.setCell ⟨XB, 0, none⟩ (.int .i64 (9 * (kq : Int))) := ⟨_, rfl⟩
          have Sx36 : Hid (Src W0 x36 c a len cap (p2 + 1 + 1 + 1 + 1)) := by rw [hw2]; exact Sx35.out.set (by have := XL.out; have := CL.out; omega) 0 _
          have Gx36 : Hid (wr.grownBy x36 (some c)) := by rw [hw2]; exact grown_farK Gx35.out XL.out 0 _
          have Bx36 : Hid (RowAt x36 XB 27 #[.int .i64 (9 * (kq : Int)), .string ky, .string ⟨#[]⟩, .int .i64 0, .int .i64 (r5 : Int), .int .i64 (r6 : Int)]) := by rw [hw2]; exact Bx35.out.set 0 _
          have HW := hid hw2
          clear hw2 Sx35 Gx35 Bx35
          go_upto_region 16 with fail
          rw [← HW.out]
          clear HW kc kf

          go_wp2_with fail
          refine (one_all W0 x36 c a len cap (p2 + 1 + 1 + 1 + 1) 40 Sx36.out (by omega) (by omega) (by omega)).mono ?_
          rintro e x37 ⟨⟨b, rfl⟩, hsx37, hgx37⟩
          have Sx37 := hid hsx37
          have Gx37 : Hid (wr.grownBy x37 (some c)) := grown_trans Gx36.out hgx37
          have Bx37 := hid (rowF Bx36.out hgx37 (by have := XL.out; have := CL.out; omega))
          clear hsx37 hgx37 Sx36 Gx36 Bx36

          cases b with
          | true =>
            have kc := Bx37.out.cell 1
            have kf := Bx37.out.free 1
            obtain ⟨x38, hw2⟩ : ∃ W, W = x37.setCell ⟨XB, 1, none⟩ (.string ⟨#[]⟩) := ⟨_, rfl⟩
            have Sx38 : Hid (Src W0 x38 c a len cap (p2 + 1 + 1 + 1 + 1 + 1)) := by rw [hw2]; exact Sx37.out.set (by have := XL.out; have := CL.out; omega) 1 _
            have Gx38 : Hid (wr.grownBy x38 (some c)) := by rw [hw2]; exact grown_farK Gx37.out XL.out 1 _
            have Bx38 : Hid (RowAt x38 XB 27 #[.int .i64 (9 * (kq : Int)), .string ⟨#[]⟩, .string ⟨#[]⟩, .int .i64 0, .int .i64 (r5 : Int), .int .i64 (r6 : Int)]) := by rw [hw2]; exact Bx37.out.set 1 _
            have HW := hid hw2
            clear hw2 Sx37 Gx37 Bx37
            go_upto_region 18 with fail
            rw [← HW.out]
            clear HW kc kf

            have O8 : Hid (OwnOp x38 w.heap.size v L) := orKeep OO.out fun g cs e r => (Gx38.out.block g r.lt (fun e2 => by have := (orRow OO.out e).1; have := CW.out; cases e2; omega)).trans r
            have z0 := Bx38.out.cell 0
            have z1 := Bx38.out.cell 1
            have z2 := Bx38.out.cell 2
            have z3 := Bx38.out.cell 3
            have z4 := Bx38.out.cell 4
            have z5 := Bx38.out.cell 5
            have WZ : Hid (w.heap.size ≤ x38.heap.size) := Nat.le_trans GG.out.size Gx38.out.size
            go_wp2_with (at_builtin; refine lockO ?_)
            refine hid ?_
            refine append_op w.heap.size x38 rfl (.tmp 54) (.tmp 56) rfl v L ⟨(9 * (kq : Int)), ⟨#[]⟩, ⟨#[]⟩, 0, (r5 : Int), (r6 : Int)⟩ rfl O8.out WZ.out rfl (by have := LL.out; omega) ?_
            intro v9 w9 hO9 hg9
            have ne9 : some c ≠ v.ownBlock := fun e => by have := (orRow O8.out e.symm).1; have := CW.out; omega
            have S9 : Hid (Src W0 w9 c a len cap (p2 + 1 + 1 + 1 + 1 + 1)) := Sx38.out.far hg9 ne9 (fun g e => by have := (orRow O8.out e).1; have := Sx38.out.2.2.2.2; have := CW.out; omega)
            have G9 : Hid (w.grownBy w9 (some c)) := by
              refine ⟨hg9.os.trans (Gx38.out.os.trans GG.out.os), hg9.tape.trans (Gx38.out.tape.trans GG.out.tape), hg9.output.trans (Gx38.out.output.trans GG.out.output), Nat.le_trans GG.out.size (Nat.le_trans Gx38.out.size hg9.size), fun k hk hne => ?_⟩
              rw [hg9.block k (Nat.lt_of_lt_of_le hk WZ.out) (fun e => by have := (orRow O8.out e.symm).1; omega), Gx38.out.block k (Nat.lt_of_lt_of_le hk GG.out.size) hne, GG.out.block k hk hne]
            have O9 := hid hO9
            clear hO9 hg9 ne9 z0 z1 z2 z3 z4 z5 O8 Sx38 Gx38 Bx38 OO GG
            go_wp2
            go_roundw
            case rel => exact ⟨i + 1, _, L ++ [⟨(9 * (kq : Int)), ⟨#[]⟩, ⟨#[]⟩, 0, (r5 : Int), (r6 : Int)⟩], p2 + 1 + 1 + 1 + 1 + 1, by omega, by go_num, rfl, by rw [List.length_append, LL.out]; rfl, O9.out, S9.out, by omega, G9.out, PL.out.snoc ⟨(by show (0 : Nat) ≤ 1000; omega), (by show (0 : Nat) ≤ 100000; omega)⟩⟩
            case measure => simp [intOf]; omega
          | false =>
            have O8 : Hid (OwnOp x37 w.heap.size v L) := orKeep OO.out fun g cs e r => (Gx37.out.block g r.lt (fun e2 => by have := (orRow OO.out e).1; have := CW.out; cases e2; omega)).trans r
            have z0 := Bx37.out.cell 0
            have z1 := Bx37.out.cell 1
            have z2 := Bx37.out.cell 2
            have z3 := Bx37.out.cell 3
            have z4 := Bx37.out.cell 4
            have z5 := Bx37.out.cell 5
            have WZ : Hid (w.heap.size ≤ x37.heap.size) := Nat.le_trans GG.out.size Gx37.out.size
            go_wp2_with (at_builtin; refine lockO ?_)
            refine hid ?_
            refine append_op w.heap.size x37 rfl (.tmp 54) (.tmp 56) rfl v L ⟨(9 * (kq : Int)), ky, ⟨#[]⟩, 0, (r5 : Int), (r6 : Int)⟩ rfl O8.out WZ.out rfl (by have := LL.out; omega) ?_
            intro v9 w9 hO9 hg9
            have ne9 : some c ≠ v.ownBlock := fun e => by have := (orRow O8.out e.symm).1; have := CW.out; omega
            have S9 : Hid (Src W0 w9 c a len cap (p2 + 1 + 1 + 1 + 1 + 1)) := Sx37.out.far hg9 ne9 (fun g e => by have := (orRow O8.out e).1; have := Sx37.out.2.2.2.2; have := CW.out; omega)
            have G9 : Hid (w.grownBy w9 (some c)) := by
              refine ⟨hg9.os.trans (Gx37.out.os.trans GG.out.os), hg9.tape.trans (Gx37.out.tape.trans GG.out.tape), hg9.output.trans (Gx37.out.output.trans GG.out.output), Nat.le_trans GG.out.size (Nat.le_trans Gx37.out.size hg9.size), fun k hk hne => ?_⟩
              rw [hg9.block k (Nat.lt_of_lt_of_le hk WZ.out) (fun e => by have := (orRow O8.out e.symm).1; omega), Gx37.out.block k (Nat.lt_of_lt_of_le hk GG.out.size) hne, GG.out.block k hk hne]
            have O9 := hid hO9
            clear hO9 hg9 ne9 z0 z1 z2 z3 z4 z5 O8 Sx37 Gx37 Bx37 OO GG
            go_wp2
            go_roundw
            case rel => exact ⟨i + 1, _, L ++ [⟨(9 * (kq : Int)), ky, ⟨#[]⟩, 0, (r5 : Int), (r6 : Int)⟩], p2 + 1 + 1 + 1 + 1 + 1, by omega, by go_num, rfl, by rw [List.length_append, LL.out]; rfl, O9.out, S9.out, by omega, G9.out, PL.out.snoc ⟨Nat.le_trans KZ.out (by decide), (by show (0 : Nat) ≤ 100000; omega)⟩⟩
            case measure => simp [intOf]; omega
        | false =>
          go_wp2_with fail
          refine (one_all W0 x34 c a len cap (p2 + 1 + 1 + 1) 40 Sx34.out (by omega) (by omega) (by omega)).mono ?_
          rintro e x39 ⟨⟨b, rfl⟩, hsx39, hgx39⟩
          have Sx39 := hid hsx39
          have Gx39 : Hid (wr.grownBy x39 (some c)) := grown_trans Gx34.out hgx39
          have Bx39 := hid (rowF Bx34.out hgx39 (by have := XL.out; have := CL.out; omega))
          clear hsx39 hgx39 Sx34 Gx34 Bx34

          cases b with
          | true =>
            have kc := Bx39.out.cell 1
            have kf := Bx39.out.free 1
            obtain ⟨x40, hw2⟩ : ∃ W, W = x39.setCell ⟨XB, 1, none⟩ (.string ⟨#[]⟩) := ⟨_, rfl⟩
            have Sx40 : Hid (Src W0 x40 c a len cap (p2 + 1 + 1 + 1 + 1)) := by rw [hw2]; exact Sx39.out.set (by have := XL.out; have := CL.out; omega) 1 _
            have Gx40 : Hid (wr.grownBy x40 (some c)) := by rw [hw2]; exact grown_farK Gx39.out XL.out 1 _
            have Bx40 : Hid (RowAt x40 XB 27 #[.int .i64 5, .string ⟨#[]⟩, .string ⟨#[]⟩, .int .i64 0, .int .i64 (r5 : Int), .int .i64 (r6 : Int)]) := by rw [hw2]; exact Bx39.out.set 1 _
            have HW := hid hw2
            clear hw2 Sx39 Gx39 Bx39
            go_upto_region 18 with fail
            rw [← HW.out]
            clear HW kc kf

            have O8 : Hid (OwnOp x40 w.heap.size v L) := orKeep OO.out fun g cs e r => (Gx40.out.block g r.lt (fun e2 => by have := (orRow OO.out e).1; have := CW.out; cases e2; omega)).trans r
            have z0 := Bx40.out.cell 0
            have z1 := Bx40.out.cell 1
            have z2 := Bx40.out.cell 2
            have z3 := Bx40.out.cell 3
            have z4 := Bx40.out.cell 4
            have z5 := Bx40.out.cell 5
            have WZ : Hid (w.heap.size ≤ x40.heap.size) := Nat.le_trans GG.out.size Gx40.out.size
            go_wp2_with (at_builtin; refine lockO ?_)
            refine hid ?_
            refine append_op w.heap.size x40 rfl (.tmp 54) (.tmp 56) rfl v L ⟨5, ⟨#[]⟩, ⟨#[]⟩, 0, (r5 : Int), (r6 : Int)⟩ rfl O8.out WZ.out rfl (by have := LL.out; omega) ?_
            intro v9 w9 hO9 hg9
            have ne9 : some c ≠ v.ownBlock := fun e => by have := (orRow O8.out e.symm).1; have := CW.out; omega
            have S9 : Hid (Src W0 w9 c a len cap (p2 + 1 + 1 + 1 + 1)) := Sx40.out.far hg9 ne9 (fun g e => by have := (orRow O8.out e).1; have := Sx40.out.2.2.2.2; have := CW.out; omega)
            have G9 : Hid (w.grownBy w9 (some c)) := by
              refine ⟨hg9.os.trans (Gx40.out.os.trans GG.out.os), hg9.tape.trans (Gx40.out.tape.trans GG.out.tape), hg9.output.trans (Gx40.out.output.trans GG.out.output), Nat.le_trans GG.out.size (Nat.le_trans Gx40.out.size hg9.size), fun k hk hne => ?_⟩
              rw [hg9.block k (Nat.lt_of_lt_of_le hk WZ.out) (fun e => by have := (orRow O8.out e.symm).1; omega), Gx40.out.block k (Nat.lt_of_lt_of_le hk GG.out.size) hne, GG.out.block k hk hne]
            have O9 := hid hO9
            clear hO9 hg9 ne9 z0 z1 z2 z3 z4 z5 O8 Sx40 Gx40 Bx40 OO GG
            go_wp2
            go_roundw
            case rel => exact ⟨i + 1, _, L ++ [⟨5, ⟨#[]⟩, ⟨#[]⟩, 0, (r5 : Int), (r6 : Int)⟩], p2 + 1 + 1 + 1 + 1, by omega, by go_num, rfl, by rw [List.length_append, LL.out]; rfl, O9.out, S9.out, by omega, G9.out, PL.out.snoc ⟨(by show (0 : Nat) ≤ 1000; omega), (by show (0 : Nat) ≤ 100000; omega)⟩⟩
            case measure => simp [intOf]; omega
          | false =>
            have O8 : Hid (OwnOp x39 w.heap.size v L) := orKeep OO.out fun g cs e r => (Gx39.out.block g r.lt (fun e2 => by have := (orRow OO.out e).1; have := CW.out; cases e2; omega)).trans r
            have z0 := Bx39.out.cell 0
            have z1 := Bx39.out.cell 1
            have z2 := Bx39.out.cell 2
            have z3 := Bx39.out.cell 3
            have z4 := Bx39.out.cell 4
            have z5 := Bx39.out.cell 5
            have WZ : Hid (w.heap.size ≤ x39.heap.size) := Nat.le_trans GG.out.size Gx39.out.size
            go_wp2_with (at_builtin; refine lockO ?_)
            refine hid ?_
            refine append_op w.heap.size x39 rfl (.tmp 54) (.tmp 56) rfl v L ⟨5, ky, ⟨#[]⟩, 0, (r5 : Int), (r6 : Int)⟩ rfl O8.out WZ.out rfl (by have := LL.out; omega) ?_
            intro v9 w9 hO9 hg9
            have ne9 : some c ≠ v.ownBlock := fun e => by have := (orRow O8.out e.symm).1; have := CW.out; omega
            have S9 : Hid (Src W0 w9 c a len cap (p2 + 1 + 1 + 1 + 1)) := Sx39.out.far hg9 ne9 (fun g e => by have := (orRow O8.out e).1; have := Sx39.out.2.2.2.2; have := CW.out; omega)
            have G9 : Hid (w.grownBy w9 (some c)) := by
              refine ⟨hg9.os.trans (Gx39.out.os.trans GG.out.os), hg9.tape.trans (Gx39.out.tape.trans GG.out.tape), hg9.output.trans (Gx39.out.output.trans GG.out.output), Nat.le_trans GG.out.size (Nat.le_trans Gx39.out.size hg9.size), fun k hk hne => ?_⟩
              rw [hg9.block k (Nat.lt_of_lt_of_le hk WZ.out) (fun e => by have := (orRow O8.out e.symm).1; omega), Gx39.out.block k (Nat.lt_of_lt_of_le hk GG.out.size) hne, GG.out.block k hk hne]
            have O9 := hid hO9
            clear hO9 hg9 ne9 z0 z1 z2 z3 z4 z5 O8 Sx39 Gx39 Bx39 OO GG
            go_wp2
            go_roundw
            case rel => exact ⟨i + 1, _, L ++ [⟨5, ky, ⟨#[]⟩, 0, (r5 : Int), (r6 : Int)⟩], p2 + 1 + 1 + 1 + 1, by omega, by go_num, rfl, by rw [List.length_append, LL.out]; rfl, O9.out, S9.out, by omega, G9.out, PL.out.snoc ⟨Nat.le_trans KZ.out (by decide), (by show (0 : Nat) ≤ 100000; omega)⟩⟩
            case measure => simp [intOf]; omega
      go_wp2_with fail
      refine (one_all W0 w2 c a len cap (p2) 30 Sw2.out (by omega) (by omega) (by omega)).mono ?_
      rintro e x41 ⟨⟨b, rfl⟩, hsx41, hgx41⟩
      have Sx41 := hid hsx41
      have Gx41 : Hid (wr.grownBy x41 (some c)) := grown_trans Gw2.out hgx41
      have Bx41 := hid (rowF Bw2.out hgx41 (by have := XL.out; have := CL.out; omega))
      clear hsx41 hgx41 Sw2 Gw2 Bw2

      cases b with
      | true =>
        go_wp2_with fail
        refine (n_all W0 x41 c a len cap (p2 + 1) 2 Sx41.out (by omega) (by omega) (by omega)).mono ?_
        rintro e x42 ⟨⟨r, rfl, hr0, hr1⟩, hsx42, hgx42⟩
        have Sx42 := hid hsx42
        have Gx42 : Hid (wr.grownBy x42 (some c)) := grown_trans Gx41.out hgx42
        have Bx42 := hid (rowF Bx41.out hgx42 (by have := XL.out; have := CL.out; omega))
        clear hsx42 hgx42 Sx41 Gx41 Bx41
        obtain ⟨kq, rfl⟩ := Int.eq_ofNat_of_zero_le hr0
        have rb : (kq : Int) ≤ 1000 := by omega

        have kc := Bx42.out.cell 0
        have kf := Bx42.out.free 0
        obtain ⟨x43, hw2⟩ : ∃ W, W = x42.setCell ⟨XB, 0, none⟩ (.int .i64 (9 * (kq : Int))) := ⟨_, rfl⟩
        have Sx43 : Hid (Src W0 x43 c a len cap (p2 + 1 + 1)) := by rw [hw2]; exact Sx42.out.set (by have := XL.out; have := CL.out; omega) 0 _
        have Gx43 : Hid (wr.grownBy x43 (some c)) := by rw [hw2]; exact grown_farK Gx42.out XL.out 0 _
        have Bx43 : Hid (RowAt x43 XB 27 #[.int .i64 (9 * (kq : Int)), .string ky, .string ⟨#[]⟩, .int .i64 0, .int .i64 0, .int .i64 0]) := by rw [hw2]; exact Bx42.out.set 0 _
        have HW := hid hw2
        clear hw2 Sx42 Gx42 Bx42
        go_upto_region 16 with fail
        rw [← HW.out]
        clear HW kc kf

        go_wp2_with fail
        refine (one_all W0 x43 c a len cap (p2 + 1 + 1) 40 Sx43.out (by omega) (by omega) (by omega)).mono ?_
        rintro e x44 ⟨⟨b, rfl⟩, hsx44, hgx44⟩
        have Sx44 := hid hsx44
        have Gx44 : Hid (wr.grownBy x44 (some c)) := grown_trans Gx43.out hgx44
        have Bx44 := hid (rowF Bx43.out hgx44 (by have := XL.out; have := CL.out; omega))
        clear hsx44 hgx44 Sx43 Gx43 Bx43

        cases b with
        | true =>
          have kc := Bx44.out.cell 1
          have kf := Bx44.out.free 1
          obtain ⟨x45, hw2⟩ : ∃ W, W = x44.setCell ⟨XB, 1, none⟩ (.string ⟨#[]⟩) := ⟨_, rfl⟩
          have Sx45 : Hid (Src W0 x45 c a len cap (p2 + 1 + 1 + 1)) := by rw [hw2]; exact Sx44.out.set (by have := XL.out; have := CL.out; omega) 1 _
          have Gx45 : Hid (wr.grownBy x45 (some c)) := by rw [hw2]; exact grown_farK Gx44.out XL.out 1 _
          have Bx45 : Hid (RowAt x45 XB 27 #[.int .i64 (9 * (kq : Int)), .string ⟨#[]⟩, .string ⟨#[]⟩, .int .i64 0, .int .i64 0, .int .i64 0]) := by rw [hw2]; exact Bx44.out.set 1 _
          have HW := hid hw2
          clear hw2 Sx44 Gx44 Bx44
          go_upto_region 18 with fail
          rw [← HW.out]
          clear HW kc kf

          have O8 : Hid (OwnOp x45 w.heap.size v L) := orKeep OO.out fun g cs e r => (Gx45.out.block g r.lt (fun e2 => by have := (orRow OO.out e).1; have := CW.out; cases e2; omega)).trans r
          have z0 := Bx45.out.cell 0
          have z1 := Bx45.out.cell 1
          have z2 := Bx45.out.cell 2
          have z3 := Bx45.out.cell 3
          have z4 := Bx45.out.cell 4
          have z5 := Bx45.out.cell 5
          have WZ : Hid (w.heap.size ≤ x45.heap.size) := Nat.le_trans GG.out.size Gx45.out.size
          go_wp2_with (at_builtin; refine lockO ?_)
          refine hid ?_
          refine append_op w.heap.size x45 rfl (.tmp 54) (.tmp 56) rfl v L ⟨(9 * (kq : Int)), ⟨#[]⟩, ⟨#[]⟩, 0, 0, 0⟩ rfl O8.out WZ.out rfl (by have := LL.out; omega) ?_
          intro v9 w9 hO9 hg9
          have ne9 : some c ≠ v.ownBlock := fun e => by have := (orRow O8.out e.symm).1; have := CW.out; omega
          have S9 : Hid (Src W0 w9 c a len cap (p2 + 1 + 1 + 1)) := Sx45.out.far hg9 ne9 (fun g e => by have := (orRow O8.out e).1; have := Sx45.out.2.2.2.2; have := CW.out; omega)
          have G9 : Hid (w.grownBy w9 (some c)) := by
            refine ⟨hg9.os.trans (Gx45.out.os.trans GG.out.os), hg9.tape.trans (Gx45.out.tape.trans GG.out.tape), hg9.output.trans (Gx45.out.output.trans GG.out.output), Nat.le_trans GG.out.size (Nat.le_trans Gx45.out.size hg9.size), fun k hk hne => ?_⟩
            rw [hg9.block k (Nat.lt_of_lt_of_le hk WZ.out) (fun e => by have := (orRow O8.out e.symm).1; omega), Gx45.out.block k (Nat.lt_of_lt_of_le hk GG.out.size) hne, GG.out.block k hk hne]
          have O9 := hid hO9
          clear hO9 hg9 ne9 z0 z1 z2 z3 z4 z5 O8 Sx45 Gx45 Bx45 OO GG
          go_wp2
          go_roundw
          case rel => exact ⟨i + 1, _, L ++ [⟨(9 * (kq : Int)), ⟨#[]⟩, ⟨#[]⟩, 0, 0, 0⟩], p2 + 1 + 1 + 1, by omega, by go_num, rfl, by rw [List.length_append, LL.out]; rfl, O9.out, S9.out, by omega, G9.out, PL.out.snoc ⟨(by show (0 : Nat) ≤ 1000; omega), (by show (0 : Nat) ≤ 100000; omega)⟩⟩
          case measure => simp [intOf]; omega
        | false =>
          have O8 : Hid (OwnOp x44 w.heap.size v L) := orKeep OO.out fun g cs e r => (Gx44.out.block g r.lt (fun e2 => by have := (orRow OO.out e).1; have := CW.out; cases e2; omega)).trans r
          have z0 := Bx44.out.cell 0
          have z1 := Bx44.out.cell 1
          have z2 := Bx44.out.cell 2
          have z3 := Bx44.out.cell 3
          have z4 := Bx44.out.cell 4
          have z5 := Bx44.out.cell 5
          have WZ : Hid (w.heap.size ≤ x44.heap.size) := Nat.le_trans GG.out.size Gx44.out.size
          go_wp2_with (at_builtin; refine lockO ?_)
          refine hid ?_
          refine append_op w.heap.size x44 rfl (.tmp 54) (.tmp 56) rfl v L ⟨(9 * (kq : Int)), ky, ⟨#[]⟩, 0, 0, 0⟩ rfl O8.out WZ.out rfl (by have := LL.out; omega) ?_
          intro v9 w9 hO9 hg9
          have ne9 : some c ≠ v.ownBlock := fun e => by have := (orRow O8.out e.symm).1; have := CW.out; omega
          have S9 : Hid (Src W0 w9 c a len cap (p2 + 1 + 1 + 1)) := Sx44.out.far hg9 ne9 (fun g e => by have := (orRow O8.out e).1; have := Sx44.out.2.2.2.2; have := CW.out; omega)
          have G9 : Hid (w.grownBy w9 (some c)) := by
            refine ⟨hg9.os.trans (Gx44.out.os.trans GG.out.os), hg9.tape.trans (Gx44.out.tape.trans GG.out.tape), hg9.output.trans (Gx44.out.output.trans GG.out.output), Nat.le_trans GG.out.size (Nat.le_trans Gx44.out.size hg9.size), fun k hk hne => ?_⟩
            rw [hg9.block k (Nat.lt_of_lt_of_le hk WZ.out) (fun e => by have := (orRow O8.out e.symm).1; omega), Gx44.out.block k (Nat.lt_of_lt_of_le hk GG.out.size) hne, GG.out.block k hk hne]
          have O9 := hid hO9
          clear hO9 hg9 ne9 z0 z1 z2 z3 z4 z5 O8 Sx44 Gx44 Bx44 OO GG
          go_wp2
          go_roundw
          case rel => exact ⟨i + 1, _, L ++ [⟨(9 * (kq : Int)), ky, ⟨#[]⟩, 0, 0, 0⟩], p2 + 1 + 1 + 1, by omega, by go_num, rfl, by rw [List.length_append, LL.out]; rfl, O9.out, S9.out, by omega, G9.out, PL.out.snoc ⟨Nat.le_trans KZ.out (by decide), (by show (0 : Nat) ≤ 100000; omega)⟩⟩
          case measure => simp [intOf]; omega
      | false =>
        go_wp2_with fail
        refine (one_all W0 x41 c a len cap (p2 + 1) 40 Sx41.out (by omega) (by omega) (by omega)).mono ?_
        rintro e x46 ⟨⟨b, rfl⟩, hsx46, hgx46⟩
        have Sx46 := hid hsx46
        have Gx46 : Hid (wr.grownBy x46 (some c)) := grown_trans Gx41.out hgx46
        have Bx46 := hid (rowF Bx41.out hgx46 (by have := XL.out; have := CL.out; omega))
        clear hsx46 hgx46 Sx41 Gx41 Bx41

        cases b with
        | true =>
          have kc := Bx46.out.cell 1
          have kf := Bx46.out.free 1
          obtain ⟨x47, hw2⟩ : ∃ W, W = x46.setCell ⟨XB, 1, none⟩ (.string ⟨#[]⟩) := ⟨_, rfl⟩
          have Sx47 : Hid (Src W0 x47 c a len cap (p2 + 1 + 1)) := by rw [hw2]; exact Sx46.out.set (by have := XL.out; have := CL.out; omega) 1 _
          have Gx47 : Hid (wr.grownBy x47 (some c)) := by rw [hw2]; exact grown_farK Gx46.out XL.out 1 _
          have Bx47 : Hid (RowAt x47 XB 27 #[.int .i64 kd, .string ⟨#[]⟩, .string ⟨#[]⟩, .int .i64 0, .int .i64 0, .int .i64 0]) := by rw [hw2]; exact Bx46.out.set 1 _
          have HW := hid hw2
          clear hw2 Sx46 Gx46 Bx46
          go_upto_region 18 with fail
          rw [← HW.out]
          clear HW kc kf

          have O8 : Hid (OwnOp x47 w.heap.size v L) := orKeep OO.out fun g cs e r => (Gx47.out.block g r.lt (fun e2 => by have := (orRow OO.out e).1; have := CW.out; cases e2; omega)).trans r
          have z0 := Bx47.out.cell 0
          have z1 := Bx47.out.cell 1
          have z2 := Bx47.out.cell 2
          have z3 := Bx47.out.cell 3
          have z4 := Bx47.out.cell 4
          have z5 := Bx47.out.cell 5
          have WZ : Hid (w.heap.size ≤ x47.heap.size) := Nat.le_trans GG.out.size Gx47.out.size
          go_wp2_with (at_builtin; refine lockO ?_)
          refine hid ?_
          refine append_op w.heap.size x47 rfl (.tmp 54) (.tmp 56) rfl v L ⟨kd, ⟨#[]⟩, ⟨#[]⟩, 0, 0, 0⟩ rfl O8.out WZ.out rfl (by have := LL.out; omega) ?_
          intro v9 w9 hO9 hg9
          have ne9 : some c ≠ v.ownBlock := fun e => by have := (orRow O8.out e.symm).1; have := CW.out; omega
          have S9 : Hid (Src W0 w9 c a len cap (p2 + 1 + 1)) := Sx47.out.far hg9 ne9 (fun g e => by have := (orRow O8.out e).1; have := Sx47.out.2.2.2.2; have := CW.out; omega)
          have G9 : Hid (w.grownBy w9 (some c)) := by
            refine ⟨hg9.os.trans (Gx47.out.os.trans GG.out.os), hg9.tape.trans (Gx47.out.tape.trans GG.out.tape), hg9.output.trans (Gx47.out.output.trans GG.out.output), Nat.le_trans GG.out.size (Nat.le_trans Gx47.out.size hg9.size), fun k hk hne => ?_⟩
            rw [hg9.block k (Nat.lt_of_lt_of_le hk WZ.out) (fun e => by have := (orRow O8.out e.symm).1; omega), Gx47.out.block k (Nat.lt_of_lt_of_le hk GG.out.size) hne, GG.out.block k hk hne]
          have O9 := hid hO9
          clear hO9 hg9 ne9 z0 z1 z2 z3 z4 z5 O8 Sx47 Gx47 Bx47 OO GG
          go_wp2
          go_roundw
          case rel => exact ⟨i + 1, _, L ++ [⟨kd, ⟨#[]⟩, ⟨#[]⟩, 0, 0, 0⟩], p2 + 1 + 1, by omega, by go_num, rfl, by rw [List.length_append, LL.out]; rfl, O9.out, S9.out, by omega, G9.out, PL.out.snoc ⟨(by show (0 : Nat) ≤ 1000; omega), (by show (0 : Nat) ≤ 100000; omega)⟩⟩
          case measure => simp [intOf]; omega
        | false =>
          have O8 : Hid (OwnOp x46 w.heap.size v L) := orKeep OO.out fun g cs e r => (Gx46.out.block g r.lt (fun e2 => by have := (orRow OO.out e).1; have := CW.out; cases e2; omega)).trans r
          have z0 := Bx46.out.cell 0
          have z1 := Bx46.out.cell 1
          have z2 := Bx46.out.cell 2
          have z3 := Bx46.out.cell 3
          have z4 := Bx46.out.cell 4
          have z5 := Bx46.out.cell 5
          have WZ : Hid (w.heap.size ≤ x46.heap.size) := Nat.le_trans GG.out.size Gx46.out.size
          go_wp2_with (at_builtin; refine lockO ?_)
          refine hid ?_
          refine append_op w.heap.size x46 rfl (.tmp 54) (.tmp 56) rfl v L ⟨kd, ky, ⟨#[]⟩, 0, 0, 0⟩ rfl O8.out WZ.out rfl (by have := LL.out; omega) ?_
          intro v9 w9 hO9 hg9
          have ne9 : some c ≠ v.ownBlock := fun e => by have := (orRow O8.out e.symm).1; have := CW.out; omega
          have S9 : Hid (Src W0 w9 c a len cap (p2 + 1 + 1)) := Sx46.out.far hg9 ne9 (fun g e => by have := (orRow O8.out e).1; have := Sx46.out.2.2.2.2; have := CW.out; omega)
          have G9 : Hid (w.grownBy w9 (some c)) := by
            refine ⟨hg9.os.trans (Gx46.out.os.trans GG.out.os), hg9.tape.trans (Gx46.out.tape.trans GG.out.tape), hg9.output.trans (Gx46.out.output.trans GG.out.output), Nat.le_trans GG.out.size (Nat.le_trans Gx46.out.size hg9.size), fun k hk hne => ?_⟩
            rw [hg9.block k (Nat.lt_of_lt_of_le hk WZ.out) (fun e => by have := (orRow O8.out e.symm).1; omega), Gx46.out.block k (Nat.lt_of_lt_of_le hk GG.out.size) hne, GG.out.block k hk hne]
          have O9 := hid hO9
          clear hO9 hg9 ne9 z0 z1 z2 z3 z4 z5 O8 Sx46 Gx46 Bx46 OO GG
          go_wp2
          go_roundw
          case rel => exact ⟨i + 1, _, L ++ [⟨kd, ky, ⟨#[]⟩, 0, 0, 0⟩], p2 + 1 + 1, by omega, by go_num, rfl, by rw [List.length_append, LL.out]; rfl, O9.out, S9.out, by omega, G9.out, PL.out.snoc ⟨Nat.le_trans KZ.out (by decide), (by show (0 : Nat) ≤ 100000; omega)⟩⟩
          case measure => simp [intOf]; omega
    · have d0 : ¬ (i : Int) < (n : Int) := by omega
      obtain rfl : i = n := by omega
      go_wp2
      go_ret
      exact ⟨⟨_, rfl, L, LL.out, OO.out, PL.out⟩, ⟨p1, SS.out, hp1⟩, GG.out⟩
end Go.Proofs.YtngkiokibldfjaaGreatDoor
