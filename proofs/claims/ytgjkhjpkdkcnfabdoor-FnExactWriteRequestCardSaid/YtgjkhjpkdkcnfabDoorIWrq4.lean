import Derived.Test.YtgjkhjpkdkcnfabDoorIWrq3
namespace Go.Proofs.YtgjkhjpkdkcnfabDoor
open Go.RowKit Go.Shelf
/-! The program's WriteRequest. -/
theorem Jn.nextB {W X w2 : World} {b : Nat} {t : TypeId} {cs : Array Value} {B : Nat} (hb : Below B X w2) (J : Hid (Jn W X b t cs)) (h1 : b < B) (h2 : W.heap.size ≤ B) : Hid (Jn W w2 b t cs) :=
  ⟨(hb.block b h1).trans J.out.1, J.out.2.trans (hb.mono h2)⟩
theorem hdL_len (o : Nat → Hp) : ∀ n, (∀ i, i < n → hdP (o i)) → (hdL o n).length ≤ n * 1063
  | 0, _ => by simp [hdL]
  | n + 1, h => by
    have h1 := hdL_len o n fun i hi => h i (by omega)
    have h2 := (h n (by omega)).1.2.1
    have h3 := (h n (by omega)).2.1
    have e1 : (o n).nm.data.toList.length = (o n).nm.size := by simp
    have e2 : (o n).vl.data.toList.length = (o n).vl.size := by simp
    unfold hdL
    simp only [List.length_append, List.length_cons, List.length_nil]
    omega
theorem fsL_len {r : Rq} (h : rqP r) : (fsL r).length ≤ 110000 := by
  have hm := h.1.2.1
  have hp : r.pt.size ≤ 1000 := h.2.1.2.1
  have q1 := h.2.2.1.1
  have e1 : r.mt.data.toList.length = r.mt.size := by simp
  have e2 := escV_len r.pt
  have e3 : (qyL r.qs.o r.qs.n).length ≤ 100000 := by
    cases hn : r.qs.n with
    | zero => simp [qyL]
    | succ n =>
      rw [qyL_join]
      have := qtL_len r.qs.o (n + 1) (by rw [← hn]; exact h.2.2.2.2.2.1)
      simp only [List.length_cons]
      omega
  unfold fsL
  simp only [List.length_append, List.length_cons, List.length_nil]
  omega
set_option maxRecDepth 20000 in
set_option maxHeartbeats 4000000 in
theorem iWrq (r : Rq) (hb : RqB r 1048576) (w : World) (hT : TB w) (h : RqIn w r) :
    Calls Tryd.prog 7 #[r.v] w fun e w' => e = .returned (.string (ofL (wrqL r))) ∧ Below w.heap.size w w' := by
  have KF := fun wx hx => hid (iRqF r hb wx hx)
  have HT := hid hT
  clear hT
  by_cases hr : rqP r
  case neg =>
    have E : Hid (wrqL r = []) := by show _ = _; unfold wrqL; rw [pb_f hr]; rfl
    have V : rqV r = 1 := rqV_f hr
    rw [V] at KF
    clear hr V hb
    obtain ⟨mt, pt, ⟨a1, n1, c1, o1⟩, ⟨a2, n2, c2, o2⟩, bd⟩ := r
    have HI := hid h
    clear h
    have KF2 : ∀ wx, RqIn wx ⟨mt, pt, ⟨a1, n1, c1, o1⟩, ⟨a2, n2, c2, o2⟩, bd⟩ → Hid (Calls Tryd.prog 13 #[.agg #[.string mt, .string pt, .slice a1 n1 c1, .slice a2 n2 c2, .string bd]] wx fun e w' => e = .returned (.int .i64 1) ∧ Below wx.heap.size wx w') := KF
    clear KF
    have J := Jn.box w 29 #[.string mt, .string pt, .slice a1 n1 c1, .slice a2 n2 c2, .string bd]
    obtain ⟨W0, hW0⟩ : ∃ W, W = w.alloc (.cells #[.string mt, .string pt, .slice a1 n1 c1, .slice a2 n2 c2, .string bd] 29) := ⟨_, rfl⟩
    rw [← hW0] at J
    show Calls Tryd.prog 7 #[.agg #[.string mt, .string pt, .slice a1 n1 c1, .slice a2 n2 c2, .string bd]] w _
    go_enter Tryd.func7, Tryd.ntmps7
    go_wp2_with fail
    rw [← hW0]
    clear hW0
    refine (KF2 _ (HI.out.below J.out.2)).out.mono ?_
    rintro e w2 ⟨rfl, hb2⟩
    have J2 := Jn.next hb2 J
    clear hb2 J
    go_wp2
    go_ret
    exact ⟨by rw [E.out]; rfl, J2.out.2⟩
  have E : Hid (wrqL r = fsL r ++ hdL r.hs.o r.hs.n ++ ([108, 101, 110, 103, 116, 104] ++ [58, 32] ++ Lib.decDigits r.bd.size ++ [10]) ++ [10] ++ r.bd.data.toList) := by
    show _ = _
    unfold wrqL headL fsL
    rw [pb_t hr]
    simp
  have V : rqV r = 0 := rqV_t hr
  rw [V] at KF
  have KL := fun wx hx => hid (iFstL r hr wx hx)
  have FL := hid (fsL_len hr)
  have hbd := hr.2.2.2.2.1
  have q2 := hr.2.2.2.1.1
  have SH := hid hr.2.2.2.2.2.2
  clear hr V hb
  obtain ⟨mt, pt, ⟨a1, n1, c1, o1⟩, ⟨a2, n2, c2, o2⟩, bd⟩ := r
  dsimp only at hbd q2 SH E
  have HL := hid (hdL_len o2 n2 SH.out)
  have HI := hid h
  have HN := hid h.hs
  dsimp only at HN
  clear h
  have KF2 : ∀ wx, RqIn wx ⟨mt, pt, ⟨a1, n1, c1, o1⟩, ⟨a2, n2, c2, o2⟩, bd⟩ → Hid (Calls Tryd.prog 13 #[.agg #[.string mt, .string pt, .slice a1 n1 c1, .slice a2 n2 c2, .string bd]] wx fun e w' => e = .returned (.int .i64 0) ∧ Below wx.heap.size wx w') := KF
  generalize hFS : fsL ⟨mt, pt, ⟨a1, n1, c1, o1⟩, ⟨a2, n2, c2, o2⟩, bd⟩ = FS at KL FL E
  have KL2 : ∀ wx, RqIn wx ⟨mt, pt, ⟨a1, n1, c1, o1⟩, ⟨a2, n2, c2, o2⟩, bd⟩ → Hid (Calls Tryd.prog 15 #[.agg #[.string mt, .string pt, .slice a1 n1 c1, .slice a2 n2 c2, .string bd]] wx fun e w' => e = .returned (.string (ofL FS)) ∧ Below wx.heap.size wx w') := KL
  clear KF KL hFS
  have LFS : Hid ((ofL FS).data.toList = FS ∧ (ofL FS).size ≤ 110000) := ⟨ofL_l _, by rw [ofL_size]; exact FL.out⟩
  generalize ofL FS = F0 at KL2 LFS
  have DLEN := dec_len bd.size (by omega)
  have KD := fun wx hx => hid (iDecm bd.size (by omega) (bd.size : Int) rfl wx hx)
  have LD : Hid ((ofL (Lib.decDigits bd.size)).data.toList = Lib.decDigits bd.size) := ofL_l _
  generalize ofL (Lib.decDigits bd.size) = DD at KD LD DLEN
  have KH := fun wx => hid (iHLine ⟨#[108, 101, 110, 103, 116, 104]⟩ DD (by decide) (by omega) wx)
  have LH : Hid ((ofL ((⟨#[108, 101, 110, 103, 116, 104]⟩ : ByteArray).data.toList ++ [58, 32] ++ DD.data.toList ++ [10])).data.toList = [108, 101, 110, 103, 116, 104] ++ [58, 32] ++ Lib.decDigits bd.size ++ [10] ∧ (ofL ((⟨#[108, 101, 110, 103, 116, 104]⟩ : ByteArray).data.toList ++ [58, 32] ++ DD.data.toList ++ [10])).size ≤ 1000) := by
    have e : DD.data.toList.length = DD.size := by simp
    exact ⟨by rw [ofL_l, LD.out], by rw [ofL_size]; simp only [List.length_append, List.length_cons, List.length_nil]; omega⟩
  generalize ofL ((⟨#[108, 101, 110, 103, 116, 104]⟩ : ByteArray).data.toList ++ [58, 32] ++ DD.data.toList ++ [10]) = LN at KH LH
  have J := Jn.box w 29 #[.string mt, .string pt, .slice a1 n1 c1, .slice a2 n2 c2, .string bd]
  obtain ⟨W0, hW0⟩ : ∃ W, W = w.alloc (.cells #[.string mt, .string pt, .slice a1 n1 c1, .slice a2 n2 c2, .string bd] 29) := ⟨_, rfl⟩
  rw [← hW0] at J
  show Calls Tryd.prog 7 #[.agg #[.string mt, .string pt, .slice a1 n1 c1, .slice a2 n2 c2, .string bd]] w _
  obtain ⟨RS, hRS⟩ : ∃ Q, Q = ofL (wrqL ⟨mt, pt, ⟨a1, n1, c1, o1⟩, ⟨a2, n2, c2, o2⟩, bd⟩) := ⟨_, rfl⟩
  rw [← hRS]
  have HRS := hid hRS
  clear hRS
  go_enter Tryd.func7, Tryd.ntmps7
  go_wp2_with fail
  rw [← hW0]
  clear hW0
  refine (KF2 _ (HI.out.below J.out.2)).out.mono ?_
  rintro e w1 ⟨rfl, hb1⟩
  replace J := Jn.next hb1 J
  clear hb1
  obtain ⟨b, hb⟩ : ∃ b, b = w1.heap.size := ⟨_, rfl⟩
  obtain ⟨W1, hW1⟩ : ∃ W, W = w1.alloc (.cells #[.pointer none, .slice none 0 0] 39) := ⟨_, rfl⟩
  have N1 : Hid (Bld b b [] W1) := by rw [hW1, hb]; exact bldNew w1
  have BW1 : Hid (Below w1.heap.size w1 W1) := by rw [hW1]; exact (Below.refl _ _).alloc (Nat.le_refl _) _
  have J1 := Jn.next BW1.out J
  have hbR : w.heap.size < b := by rw [hb]; exact J.out.1.lt
  have bz1 : b ≤ W1.heap.size := by rw [hb]; exact BW1.out.size
  have hbW : w.heap.size ≤ b := by omega
  have x0 : W1.cell? ⟨w.heap.size, 0, none⟩ = some (.string mt) := J1.out.1.cell 0
  have x1 : W1.cell? ⟨w.heap.size, 1, none⟩ = some (.string pt) := J1.out.1.cell 1
  have x2 : W1.cell? ⟨w.heap.size, 2, none⟩ = some (.slice a1 n1 c1) := J1.out.1.cell 2
  have x3 : W1.cell? ⟨w.heap.size, 3, none⟩ = some (.slice a2 n2 c2) := J1.out.1.cell 3
  have x4 : W1.cell? ⟨w.heap.size, 4, none⟩ = some (.string bd) := J1.out.1.cell 4
  go_upto_region 4 with fail
  rw [← hW1, ← hb]
  clear hW1 hb BW1 J KF2
  go_wp2_with fail
  refine (KL2 _ (HI.out.below J1.out.2)).out.mono ?_
  rintro e w2 ⟨rfl, hb2⟩
  have J2 := Jn.next hb2 J1
  have N2 := hid (N1.out.below hb2)
  have bz2 : b ≤ w2.heap.size := Nat.le_trans bz1 hb2.size
  clear hb2 J1 N1 x0 x1 x2 x3 x4 KL2
  go_wp2_with fail
  refine (bldWrite b b [] F0 w2 N2.out (by have := LFS.out.2; simp; omega) bz2).mono ?_
  rintro e w3 ⟨rfl, hN3, hb3⟩
  rw [LFS.out.1, List.nil_append] at hN3
  have N3 := hid hN3
  have J3 := Jn.nextB hb3 J2 hbR hbW
  have bz3 : b ≤ w3.heap.size := Nat.le_trans bz2 hb3.size
  have x3 : w3.cell? ⟨w.heap.size, 3, none⟩ = some (.slice a2 n2 c2) := J3.out.1.cell 3
  clear hN3 hb3 N2 J2
  go_wp2_with fail
  go_loopw [15] (fun i wr => ∃ k : Nat, k ≤ n2 ∧ i = .int .i64 (k : Int) ∧ Bld b b (FS ++ hdL o2 k) wr ∧ Jn w wr w.heap.size 29 #[.string mt, .string pt, .slice a1 n1 c1, .slice a2 n2 c2, .string bd] ∧ b ≤ wr.heap.size) (fun i _ => n2 - (intOf i).toNat)
  case atStart => exact ⟨0, Nat.zero_le _, rfl, by simpa [hdL] using N3.out, J3.out, bz3⟩
  case round =>
    obtain ⟨k, hk, rfl, hN, hJ, hbz⟩ := hrel
    have N := hid hN
    have J := hid hJ
    clear hN hJ N3 J3 bz3 x3
    have FLo := FL.out
    by_cases hlt : k < n2
    · have d3 : (k : Int) < (n2 : Int) := by omega
      have k0 : (0 : Int) ≤ (k : Int) := by omega
      rcases (HN.out.below J.out.2).2 with h00 | ⟨bx, off, rfl, hbl, hc⟩
      · omega
      obtain ⟨c0, c1'⟩ := hc k hlt
      have LK := hdL_len o2 k fun i hi => SH.out i (by omega)
      have s0 := (SH.out k hlt).1.2.1
      have s1 := (SH.out k hlt).2.1
      have HS : Hid (hdL o2 (k + 1) = hdL o2 k ++ ((o2 k).nm.data.toList ++ [58, 32] ++ (o2 k).vl.data.toList ++ [10])) := by show _ = _; show hdL o2 k ++ _ ++ _ ++ _ ++ _ = _; simp
      obtain ⟨Y, hY⟩ : ∃ Y, o2 k = Y := ⟨_, rfl⟩
      rw [hY] at c0 c1' s0 s1 HS
      clear hY hc
      obtain ⟨p0, p1⟩ := Y
      dsimp only at c0 c1' s0 s1 HS
      have KP := fun wx => hid (iHLine p0 p1 (by omega) (by omega) wx)
      have LP : Hid ((ofL (p0.data.toList ++ [58, 32] ++ p1.data.toList ++ [10])).data.toList = p0.data.toList ++ [58, 32] ++ p1.data.toList ++ [10] ∧ (ofL (p0.data.toList ++ [58, 32] ++ p1.data.toList ++ [10])).size ≤ 2000) := by
        have e1 : p0.data.toList.length = p0.size := by simp
        have e2 : p1.data.toList.length = p1.size := by simp
        exact ⟨ofL_l _, by rw [ofL_size]; simp only [List.length_append, List.length_cons, List.length_nil]; omega⟩
      generalize ofL (p0.data.toList ++ [58, 32] ++ p1.data.toList ++ [10]) = PL at KP LP
      obtain ⟨W2, hW2⟩ : ∃ W, W = wr.alloc (.cells #[.string p0, .string p1] 45) := ⟨_, rfl⟩
      have BA : Hid (Below wr.heap.size wr W2) := by rw [hW2]; exact (Below.refl _ _).alloc (Nat.le_refl _) _
      have J2 := Jn.next BA.out J
      have N2 := hid (N.out.below BA.out)
      have z2 : b ≤ W2.heap.size := Nat.le_trans hbz BA.out.size
      clear BA
      go_wp2_with fail
      refine (KP _).out.mono ?_
      rintro e w3 ⟨rfl, hw⟩
      obtain rfl := hw.symm
      rw [← hW2]
      clear hW2 c0 c1' J N
      go_wp2_with fail
      refine (bldWrite b b _ PL W2 N2.out (by have := LP.out.2; rw [List.length_append]; omega) z2).mono ?_
      rintro e w4 ⟨rfl, hN4, hb4⟩
      rw [LP.out.1, List.append_assoc, ← HS.out] at hN4
      have N4 := hid hN4
      have J4 := Jn.nextB hb4 J2 hbR hbW
      have z4 : b ≤ w4.heap.size := Nat.le_trans z2 hb4.size
      clear hN4 hb4 J2 N2
      go_wp2
      go_roundw
      case rel => exact ⟨k + 1, by omega, by go_num, N4.out, J4.out, z4⟩
      case measure => simp [intOf]; omega
    · have d3 : ¬ (k : Int) < (n2 : Int) := by omega
      have ek : k = n2 := by omega
      subst ek
      have HLo := HL.out
      have x4 : wr.cell? ⟨w.heap.size, 4, none⟩ = some (.string bd) := J.out.1.cell 4
      go_wp2_with fail
      refine (KD _ (HT.out.below J.out.2)).out.mono ?_
      rintro e w3 ⟨rfl, hb3⟩
      have J3 := Jn.next hb3 J
      have N3 := hid (N.out.below hb3)
      have z3 : b ≤ w3.heap.size := Nat.le_trans hbz hb3.size
      clear hb3 J N x4
      go_wp2_with fail
      refine (KH _).out.mono ?_
      rintro e w4 ⟨rfl, hw⟩
      obtain rfl := hw.symm
      go_wp2_with fail
      refine (bldWrite b b _ LN w3 N3.out (by have := LH.out.2; rw [List.length_append]; omega) z3).mono ?_
      rintro e w4 ⟨rfl, hN4, hb4⟩
      rw [LH.out.1] at hN4
      have N4 := hid hN4
      have J4 := Jn.nextB hb4 J3 hbR hbW
      have z4 : b ≤ w4.heap.size := Nat.le_trans z3 hb4.size
      have LL4 : Hid ((FS ++ hdL o2 k ++ ([108, 101, 110, 103, 116, 104] ++ [58, 32] ++ Lib.decDigits bd.size ++ [10])).length ≤ 200000) := by
        have e : ([108, 101, 110, 103, 116, 104] ++ [58, 32] ++ Lib.decDigits bd.size ++ [10] : List UInt8).length = LN.size := by rw [← LH.out.1]; simp
        have := LH.out.2
        show _ ≤ _
        rw [List.length_append, List.length_append, e]
        omega
      clear hN4 hb4 J3 N3
      go_wp2_with fail
      refine (bldWrite b b _ ⟨#[10]⟩ w4 N4.out (by have := LL4.out; show _ + 1 ≤ _; omega) z4).mono ?_
      rintro e w5 ⟨rfl, hN5, hb5⟩
      have N5 := hid hN5
      have J5 := Jn.nextB hb5 J4 hbR hbW
      have z5 : b ≤ w5.heap.size := Nat.le_trans z4 hb5.size
      have x5 : w5.cell? ⟨w.heap.size, 4, none⟩ = some (.string bd) := J5.out.1.cell 4
      clear hN5 hb5 J4 N4
      go_wp2_with fail
      refine (bldWrite b b _ bd w5 N5.out (by have := LL4.out; rw [List.length_append]; show _ + 1 + _ ≤ _; omega) z5).mono ?_
      rintro e w6 ⟨rfl, hN6, hb6⟩
      have N6 := hid hN6
      have J6 := Jn.nextB hb6 J5 hbR hbW
      have z6 : b ≤ w6.heap.size := Nat.le_trans z5 hb6.size
      clear hN6 hb6 J5 N5 x5
      have KS := hid (bldStr b b _ w6 N6.out z6)
      have RE : Hid (ofL (FS ++ hdL o2 k ++ ([108, 101, 110, 103, 116, 104] ++ [58, 32] ++ Lib.decDigits bd.size ++ [10]) ++ (⟨#[10]⟩ : ByteArray).data.toList ++ bd.data.toList) = RS) := by
        show _ = _
        rw [HRS.out, E.out]
      rw [RE.out] at KS
      clear RE N6
      go_wp2_with fail
      refine KS.out.mono ?_
      rintro e w7 ⟨rfl, hb7⟩
      have J7 := Jn.nextB hb7 J6 hbR hbW
      go_wp2
      go_ret
      exact ⟨rfl, J7.out.2⟩
end Go.Proofs.YtgjkhjpkdkcnfabDoor
