import Derived.Test.YtmjolkagkeonfaaGreatDoorIWr1
import Derived.Deep.RegionHeld3
namespace Go.Proofs.YtmjolkagkeonfaaGreatDoor
open Go.RowKit Go.Shelf
/-! The program's statementLine. -/
def bl (l : List UInt8) : ByteArray := ⟨l.toArray⟩
theorem bl_list (l : List UInt8) : (bl l).data.toList = l := rfl
theorem bl_of {t : ByteArray} {l : List UInt8} (h : t.data.toList = l) : t = bl l := by
  cases t with
  | mk d => unfold bl; congr 1; apply Array.toList_inj.1; simpa using h
/-- the words of a statement's line, with k of its conditions -/
def wds (s : St) (k : Nat) : List (List UInt8) := [ew s.ef, [119, 104, 111], jn s.wo.ts s.wo.n, [100, 111], jn s.wa.ts s.wa.n, [111, 110], jn s.wi.ts s.wi.n] ++ (List.range k).map fun i => cw (s.cs.o i)
theorem wds_succ (s : St) (k : Nat) : wds s (k + 1) = wds s k ++ [cw (s.cs.o k)] := by unfold wds; rw [List.range_succ]; simp
theorem wds_ne (s : St) (k : Nat) : wds s k ≠ [] := by unfold wds; simp
theorem wds_join (s : St) : ∀ k, Lib.join (wds s k) [32] = lnH s ++ ifsL s.cs.o k
  | 0 => by
    unfold wds lnH ifsL
    simp [Lib.join, List.intercalate]
  | k + 1 => by
    rw [wds_succ, join_snoc _ _ _ (wds_ne s k), wds_join s k]
    show _ = lnH s ++ (ifsL s.cs.o k ++ [32] ++ cw (s.cs.o k))
    simp
theorem wds_len (s : St) (k : Nat) : (wds s k).length = 7 + k := by unfold wds; simp; omega
theorem cw_len (c : Cn) (hc : cnP c) : (cw c).length ≤ 300 := by
  obtain ⟨kd, tx, tm⟩ := c
  have hk : (kw kd).length ≤ 6 := by unfold kw; split; decide; split; decide; split <;> decide
  have h : (cv ⟨kd, tx, tm⟩).length ≤ 200 := by
    by_cases k1 : kd = 1
    · subst k1; have := ((cnP_w (.inl rfl)).1 hc).1.2.1; show (cv ⟨1, tx, tm⟩).length ≤ _; unfold cv; rw [if_pos (.inl rfl), baLen]; exact this
    by_cases k4 : kd = 4
    · subst k4; have := ((cnP_w (.inr rfl)).1 hc).1.2.1; unfold cv; rw [if_pos (.inr rfl), baLen]; exact this
    have hd : ∀ n : Int, 0 ≤ n → n ≤ 4102444800 → (Lib.decDigits n.toNat).length ≤ 200 := fun n h0 h1 => Nat.le_trans (dec_len _ (by omega)) (by decide)
    have hn : ¬ (kd = 1 ∨ kd = 4) := fun h => h.elim k1 k4
    unfold cv
    rw [if_neg hn]
    by_cases k2 : kd = 2
    · subst k2; obtain ⟨_, h0, h1⟩ := (cnP_t (.inl rfl)).1 hc; exact hd _ h0 h1
    by_cases k3 : kd = 3
    · subst k3; obtain ⟨_, h0, h1⟩ := (cnP_t (.inr rfl)).1 hc; exact hd _ h0 h1
    exact absurd hc (cnP_o k1 k2 k3 k4)
  unfold cw
  rw [List.length_append, List.length_append]
  show (kw kd).length + 1 + _ ≤ _
  omega
theorem ifs_len (o : Nat → Cn) : ∀ k, (∀ i, i < k → cnP (o i)) → (ifsL o k).length ≤ k * 301
  | 0, _ => by unfold ifsL; simp
  | k + 1, h => by
    unfold ifsL
    rw [List.length_append, List.length_append]
    have h1 := ifs_len o k (fun i hi => h i (by omega))
    have h2 := cw_len _ (h k (by omega))
    show _ + 1 + _ ≤ _
    omega
/-- a condition's value and its words -/
theorem iCV (c : Cn) (hc : cnP c) : ∃ V : Value, (∀ w : World, Calls Tryz.prog 67 #[.agg #[.int .i64 c.kd, .string c.tx, .int .i64 c.tm]] w fun e w' => e = .returned V ∧ w' = w.alloc (.cells #[.int .i64 c.kd, .string c.tx, .int .i64 c.tm] 83)) ∧
    ∀ w : World, TB w → Calls Tryz.prog 66 #[V] w fun e w' => e = .returned (.string (bl (cw c))) ∧ (cw c).length ≤ 300 ∧ Below w.heap.size w w' := by
  obtain ⟨kd, tx, tm⟩ := c
  have fin : ∀ {w : World} {V : Value}, (Calls Tryz.prog 66 #[V] w fun e w' => (∃ t : ByteArray, e = .returned (.string t) ∧ t.data.toList = cw ⟨kd, tx, tm⟩ ∧ t.size ≤ 300) ∧ Below w.heap.size w w') → Calls Tryz.prog 66 #[V] w fun e w' => e = .returned (.string (bl (cw ⟨kd, tx, tm⟩))) ∧ (cw ⟨kd, tx, tm⟩).length ≤ 300 ∧ Below w.heap.size w w' := by
    intro w V h
    refine h.mono ?_
    rintro e w' ⟨⟨t, rfl, h1, h2⟩, h3⟩
    exact ⟨by rw [bl_of h1], by rw [← h1, baLen]; exact h2, h3⟩
  dsimp only
  by_cases k1 : kd = 1
  · subst k1
    exact ⟨_, fun w => iCond1 tx tm w, fun w _ => fin (iCW1 tx tm ((cnP_w (.inl rfl)).1 hc).1.2.1 w)⟩
  by_cases k4 : kd = 4
  · subst k4
    exact ⟨_, fun w => iCond4 tx tm w, fun w _ => fin (iCW4 tx tm ((cnP_w (.inr rfl)).1 hc).1.2.1 w)⟩
  by_cases k2 : kd = 2
  · subst k2
    obtain ⟨_, h0, h1⟩ := (cnP_t (.inl rfl)).1 hc
    obtain ⟨n, rfl⟩ := Int.eq_ofNat_of_zero_le h0
    exact ⟨_, fun w => iCond2 tx n w, fun w hT => fin (iCW2 tx n (by omega) w hT)⟩
  by_cases k3 : kd = 3
  · subst k3
    obtain ⟨_, h0, h1⟩ := (cnP_t (.inr rfl)).1 hc
    obtain ⟨n, rfl⟩ := Int.eq_ofNat_of_zero_le h0
    exact ⟨_, fun w => iCond3 tx n w, fun w hT => fin (iCW3 tx n (by omega) w hT)⟩
  exact absurd hc (cnP_o k1 k2 k3 k4)
set_option maxRecDepth 20000 in
set_option maxHeartbeats 4000000 in
theorem iLine (s : St) (hst : stP s) (hn4 : s.cs.n ≤ 10) (w : World) (hT : TB w) (h : StIn w s) :
    Calls Tryz.prog 26 #[.agg #[.int .i64 s.ef, .slice s.wo.ad s.wo.n s.wo.cap, .slice s.wa.ad s.wa.n s.wa.cap, .slice s.wi.ad s.wi.n s.wi.cap, .slice s.cs.ad s.cs.n s.cs.cap]] w fun e w' => e = .returned (.string (bl (ln s))) ∧ (ln s).length ≤ 40000 ∧ Below w.heap.size w w' := by
  obtain ⟨S0, hS0⟩ : ∃ S0, S0 = s := ⟨_, rfl⟩
  obtain ⟨f, ⟨a1, n1, c1, t1⟩, ⟨a2, n2, c2, t2⟩, ⟨a3, n3, c3, t3⟩, ⟨a4, n4, c4, o4⟩⟩ := s
  have HS0 := hid hS0
  obtain ⟨_, hl1, hl2, hl3, hl4⟩ := hst
  dsimp only at hl1 hl2 hl3 hl4 hn4 ⊢
  rw [← hS0]
  clear hS0
  obtain ⟨W0, hW0⟩ : ∃ W, W = w.alloc (.cells #[.int .i64 f, .slice a1 n1 c1, .slice a2 n2 c2, .slice a3 n3 c3, .slice a4 n4 c4] 73) := ⟨_, rfl⟩
  have A0 : Hid (RowAt W0 w.heap.size 73 #[.int .i64 f, .slice a1 n1 c1, .slice a2 n2 c2, .slice a3 n3 c3, .slice a4 n4 c4]) := by rw [hW0]; exact RowAt.new _ _ _
  have B0 : Hid (Below w.heap.size w W0) := by rw [hW0]; exact balCn (Below.refl _ _) _
  have I0 := hid (h.below B0.out)
  have T0 := hid (hT.below B0.out)
  have sz1 : ∀ i, i < n1 → (t1 i).size ≤ 200 := fun i hi => (hl1.2.2 i hi).1.2.1
  have sz2 : ∀ i, i < n2 → (t2 i).size ≤ 200 := fun i hi => (hl2.2.2 i hi).1.2.1
  have sz3 : ∀ i, i < n3 → (t3 i).size ≤ 200 := fun i hi => (hl3.2.2 i hi).1.2.1
  have jb1 : (jn t1 n1).length ≤ 4020 := Nat.le_trans (jn_len t1 n1 sz1) (by have := hl1.2.1; omega)
  have jb2 : (jn t2 n2).length ≤ 4020 := Nat.le_trans (jn_len t2 n2 sz2) (by have := hl2.2.1; omega)
  have jb3 : (jn t3 n3).length ≤ 4020 := Nat.le_trans (jn_len t3 n3 sz3) (by have := hl3.2.1; omega)
  have J1 := fun wx (hb : Below W0.heap.size W0 wx) => hid (iJoinC a1 n1 c1 t1 ⟨#[44]⟩ hl1.1 (by have := hl1.2.1; omega) (Nat.le_trans jb1 (by omega)) wx (I0.out.wo.below hb))
  have J2 := fun wx (hb : Below W0.heap.size W0 wx) => hid (iJoinC a2 n2 c2 t2 ⟨#[44]⟩ hl2.1 (by have := hl2.2.1; omega) (Nat.le_trans jb2 (by omega)) wx (I0.out.wa.below hb))
  have J3 := fun wx (hb : Below W0.heap.size W0 wx) => hid (iJoinC a3 n3 c3 t3 ⟨#[44]⟩ hl3.1 (by have := hl3.2.1; omega) (Nat.le_trans jb3 (by omega)) wx (I0.out.wi.below hb))
  have HL4 := hid hl4
  have zG := A0.out.lt
  have y0 : W0.drew.cell? ⟨w.heap.size, 0, none⟩ = some (.int .i64 f) := A0.out.cell 0
  have y1 : W0.drew.cell? ⟨w.heap.size, 1, none⟩ = some (.slice a1 n1 c1) := A0.out.cell 1
  have y2 : W0.drew.cell? ⟨w.heap.size, 2, none⟩ = some (.slice a2 n2 c2) := A0.out.cell 2
  have y3 : W0.drew.cell? ⟨w.heap.size, 3, none⟩ = some (.slice a3 n3 c3) := A0.out.cell 3
  have x0 : W0.cell? ⟨w.heap.size, 0, none⟩ = some (.int .i64 f) := A0.out.cell 0
  have x1 : W0.cell? ⟨w.heap.size, 1, none⟩ = some (.slice a1 n1 c1) := A0.out.cell 1
  have x2 : W0.cell? ⟨w.heap.size, 2, none⟩ = some (.slice a2 n2 c2) := A0.out.cell 2
  have x3 : W0.cell? ⟨w.heap.size, 3, none⟩ = some (.slice a3 n3 c3) := A0.out.cell 3
  have BD : Hid (Below W0.heap.size W0 W0.drew) := (Below.refl _ W0).drew
  clear h hT hl1 hl2 hl3 hl4 sz1 sz2 sz3
  obtain ⟨G, hG⟩ : ∃ G, G = w.heap.size := ⟨_, rfl⟩
  go_enter Tryz.func26, Tryz.ntmps26
  go_upto_region 1 with fail
  rw [← hW0]
  rw [← hG] at A0 zG y0 y1 y2 y3 x0 x1 x2 x3 ⊢
  have HG := hid hG
  clear hW0 hG
  go_region_held3 (fun wx => wx.cell? ⟨G, 0, none⟩ = some (.int .i64 f) ∧ wx.cell? ⟨G, 1, none⟩ = some (.slice a1 n1 c1) ∧ wx.cell? ⟨G, 2, none⟩ = some (.slice a2 n2 c2) ∧ wx.cell? ⟨G, 3, none⟩ = some (.slice a3 n3 c3))
    (first | with_reducible exact ⟨r0, r1, r2, r3⟩ | with_reducible exact ⟨y0, y1, y2, y3⟩ | with_reducible exact ⟨x0, x1, x2, x3⟩ | exact ⟨(R4.out.alloc _).cell 0, (R4.out.alloc _).cell 1, (R4.out.alloc _).cell 2, (R4.out.alloc _).cell 3⟩)
    (first
      | (go_at_call 64; refine (iEff f _).mono ?_; rintro e w2 ⟨rfl, hw2⟩; obtain rfl := hw2.symm)
      | (go_at_call 65; (fail_if_success have hh := Q1); refine (J1 _ BD.out).out.mono ?_; rintro e w2 ⟨rfl, hb2⟩; have Q1 := hid (BD.out.trans (hb2.mono BD.out.size)); have r0 := (hb2.cell (p := ⟨G, 0, none⟩) zG).trans y0; have r1 := (hb2.cell (p := ⟨G, 1, none⟩) zG).trans y1; have r2 := (hb2.cell (p := ⟨G, 2, none⟩) zG).trans y2; have r3 := (hb2.cell (p := ⟨G, 3, none⟩) zG).trans y3; have z2 : Hid (G < w2.heap.size) := Nat.lt_of_lt_of_le zG hb2.size; clear hb2)
      | (go_at_call 65; have hh := Q1; clear hh; (fail_if_success have hh := Q2); refine (J2 _ Q1.out).out.mono ?_; rintro e w3 ⟨rfl, hb3⟩; have Q2 := hid (Q1.out.trans (hb3.mono Q1.out.size)); replace r0 := (hb3.cell (p := ⟨G, 0, none⟩) z2.out).trans r0; replace r1 := (hb3.cell (p := ⟨G, 1, none⟩) z2.out).trans r1; replace r2 := (hb3.cell (p := ⟨G, 2, none⟩) z2.out).trans r2; replace r3 := (hb3.cell (p := ⟨G, 3, none⟩) z2.out).trans r3; have z3 : Hid (G < w3.heap.size) := Nat.lt_of_lt_of_le z2.out hb3.size; clear hb3)
      | (go_at_call 65; have hh := Q2; clear hh; refine (J3 _ Q2.out).out.mono ?_; rintro e w4 ⟨rfl, hb4⟩; have Q3 := hid (Q2.out.trans (hb4.mono Q2.out.size)); have R4 := hid (A0.out.below Q3.out zG); replace r0 := (hb4.cell (p := ⟨G, 0, none⟩) z3.out).trans r0; replace r1 := (hb4.cell (p := ⟨G, 1, none⟩) z3.out).trans r1; replace r2 := (hb4.cell (p := ⟨G, 2, none⟩) z3.out).trans r2; replace r3 := (hb4.cell (p := ⟨G, 3, none⟩) z3.out).trans r3; clear hb4))
  obtain ⟨V, hV⟩ : ∃ V, V = w4.alloc (.cells #[.string ⟨(ew f).toArray⟩, .string ⟨#[119, 104, 111]⟩, .string ⟨(Lib.join (jl t1 n1) [44]).toArray⟩, .string ⟨#[100, 111]⟩, .string ⟨(Lib.join (jl t2 n2) [44]).toArray⟩, .string ⟨#[111, 110]⟩, .string ⟨(Lib.join (jl t3 n3) [44]).toArray⟩] 9) := ⟨_, rfl⟩
  have RV : Hid (RowAt V G 73 #[.int .i64 f, .slice a1 n1 c1, .slice a2 n2 c2, .slice a3 n3 c3, .slice a4 n4 c4]) := by rw [hV]; exact R4.out.alloc _
  have BV : Hid (Below W0.heap.size W0 V) := by rw [hV]; exact Q3.out.alloc Q3.out.size _
  have OV : Hid (OwnStrs V W0.heap.size (.slice (some ⟨w4.heap.size, 0, none⟩) 7 7) ((wds ⟨f, ⟨a1, n1, c1, t1⟩, ⟨a2, n2, c2, t2⟩, ⟨a3, n3, c3, t3⟩, ⟨a4, n4, c4, o4⟩⟩ 0).map bl)) := by
    rw [hV]
    refine ⟨rfl, Or.inr ⟨w4.heap.size, 7, _, rfl, Q3.out.size, RowAt.new _ _ _, Nat.le_refl _, by decide, rfl, rfl⟩⟩
  rw [← hV]
  have HV := hid hV
  clear hV r0 r1 r2 r3 y0 y1 y2 y3 x0 x1 x2 x3 J1 J2 J3
  have v4 : V.cell? ⟨G, 4, none⟩ = some (.slice a4 n4 c4) := RV.out.cell 4
  generalize Value.slice (some ⟨w4.heap.size, 0, none⟩) 7 7 = VV at OV ⊢
  go_wp2
  have CN : Hid (Cns W0 a4 n4 c4 o4) := I0.out.cs
  have EC : Hid (∀ i, i < n4 → cnP (o4 i)) := HL4.out
  obtain ⟨S, hS⟩ : ∃ S, S = (⟨f, ⟨a1, n1, c1, t1⟩, ⟨a2, n2, c2, t2⟩, ⟨a3, n3, c3, t3⟩, ⟨a4, n4, c4, o4⟩⟩ : St) := ⟨_, rfl⟩
  have SO : Hid (∀ i, S.cs.o i = o4 i) := fun i => by rw [hS]
  have SN : Hid (S.cs.n = n4) := by show _ = _; rw [hS]
  have JB : Hid ((lnH S ++ ifsL S.cs.o S.cs.n).length ≤ 30000) := by
    show _ ≤ _
    rw [hS]
    dsimp only
    have q1 := ifs_len o4 n4 EC.out
    have q2 : (ew f).length ≤ 5 := by unfold ew; split <;> decide
    unfold lnH
    simp only [List.length_append, List.length_cons, List.length_nil]
    omega
  have HS : Hid (S0 = S) := HS0.out.trans hS.symm
  rw [← hS] at OV
  have HSS := hid hS
  clear hS
  have BW := hid B0.out.size
  go_loopw [3, 22] (fun v x wr => ∃ j : Nat, j ≤ n4 ∧ x = .int .i64 (j : Int) ∧ OwnStrs wr W0.heap.size v ((wds S j).map bl) ∧ Below W0.heap.size W0 wr) (fun _ x _ => n4 - (intOf x).toNat)
  case atStart => exact ⟨0, Nat.zero_le _, rfl, OV.out, BV.out⟩
  case round =>
    obtain ⟨j, hj, rfl, hO, hB⟩ := hrel
    have HO := hid hO
    have HB := hid hB
    clear hO hB OV BV
    by_cases hlt : j < n4
    · have d3 : (j : Int) < (n4 : Int) := by omega
      have k0 : (0 : Int) ≤ (j : Int) := by omega
      rcases (CN.out.below HB.out).2 with h00 | ⟨b, off, rfl, hbl, hc⟩
      · omega
      obtain ⟨y0, y1, y2⟩ := hc j hlt
      have hcj := EC.out j hlt
      have WS : Hid ((wds S (j + 1)).map bl = (wds S j).map bl ++ [bl (cw (o4 j))]) := by show _ = _; rw [wds_succ, List.map_append, SO.out]; rfl
      obtain ⟨U, hU1, hU2⟩ := iCV (o4 j) hcj
      generalize o4 j = C at y0 y1 y2 hcj WS hU1 hU2
      obtain ⟨kd, tx, tm⟩ := C
      dsimp only at y0 y1 y2 hU1
      obtain ⟨W2, hW2⟩ : ∃ W, W = wr.alloc (.cells #[.int .i64 kd, .string tx, .int .i64 tm] 83) := ⟨_, rfl⟩
      have B2 : Hid (Below W0.heap.size W0 W2) := by rw [hW2]; exact HB.out.alloc HB.out.size _
      have O2 : Hid (OwnStrs W2 W0.heap.size u3 ((wds S j).map bl)) := by rw [hW2]; exact HO.out.alloc _
      clear hc
      have HU2 := hid hU2
      clear hU2
      go_wp2_with fail
      rw [← hW2]
      refine (hU1 _).mono ?_
      rintro e w3 ⟨rfl, hw3⟩
      have B3 : Hid (Below W0.heap.size W0 w3) := by rw [hw3]; exact B2.out.alloc B2.out.size _
      have O3 : Hid (OwnStrs w3 W0.heap.size u3 ((wds S j).map bl)) := by rw [hw3]; exact O2.out.alloc _
      clear hw3 hW2 hU1 O2 B2
      go_wp2_with fail
      refine (HU2.out _ (T0.out.below B3.out)).mono ?_
      rintro e w5 ⟨rfl, hcl, hb5⟩
      have B5 := hid (B3.out.trans (hb5.mono B3.out.size))
      have O5 := hid (O3.out.below hb5)
      clear hb5 O3 B3 HU2
      generalize bl (cw ⟨kd, tx, tm⟩) = T at WS ⊢
      have Z5 : Hid (W0.heap.size ≤ w5.heap.size) := B5.out.size
      have Y5 : Hid (((wds S j).map bl).length ≤ 1048576) := by show _ ≤ _; rw [List.length_map, wds_len]; omega
      go_wp2_with (refine append_str2 W0.heap.size w5 (by rfl) (.tmp 26) (.tmp 30) 70 (by rfl) Tryz.underlying70 Tryz.infoS' _ _ T (by rfl) O5.out Z5.out (by rfl) Y5.out ?_; intro v6 w6 hO6 hg6)
      have B6 : Hid (Below W0.heap.size W0 w6) := B5.out.grown hg6 B5.out.size (fun b hb => (World.ownsRow.lt O5.out b hb).1)
      rw [← WS.out] at hO6
      have O6 := hid hO6
      clear hO6 hg6 O5 B5
      go_wp2
      go_roundw
      case rel => exact ⟨j + 1, by omega, by go_num, O6.out, B6.out⟩
      case measure => simp [intOf]; omega
    · have d3 : ¬ (j : Int) < (n4 : Int) := by omega
      have ej : j = n4 := by omega
      obtain ⟨av, cv, hav⟩ := HO.out.slice
      have L7 : ((wds S j).map bl).length = 7 + j := by rw [List.length_map, wds_len]
      rw [hav] at HO
      obtain ⟨g, rfl, hbg, hn, hst⟩ := HO.out.strs (ts := fun i => ((wds S j).map bl).getD i ⟨#[]⟩) (by omega) (fun i hi => by
        rw [List.getD_eq_getElem?_getD, List.getElem?_eq_getElem hi]; rfl)
      rw [hn] at hst
      have JL : jl (fun i => ((wds S j).map bl).getD i ⟨#[]⟩) ((wds S j).map bl).length = wds S j := by
        unfold jl
        apply List.ext_getElem
        · simp
        · intro i h1 h2
          simp at h1 h2
          simp
          rw [List.getElem?_eq_getElem h1]
          rfl
      have LE : Lib.join (wds S j) [32] = lnH S ++ ifsL S.cs.o S.cs.n := by rw [wds_join, SN.out, ej]
      rw [L7] at hst JL hn
      rw [L7] at hav
      subst hav
      have LB : (Lib.join (wds S j) [32]).length ≤ 30000 := by
        rw [LE]
        exact JB.out
      have J := hid (iJoinC _ (7 + j) cv _ ⟨#[32]⟩ (by omega) (by omega) (by rw [JL]; exact Nat.le_trans LB (by omega)) _ hst)
      rw [JL] at J
      have HLE := hid LE
      have LZ : (⟨(Lib.join (wds S j) [32]).toArray⟩ : ByteArray).size ≤ 30000 := by show (Lib.join (wds S j) [32]).toArray.size ≤ _; simpa using LB
      obtain ⟨TJ, hTJ⟩ : ∃ T, T = (⟨(Lib.join (wds S j) [32]).toArray⟩ : ByteArray) := ⟨_, rfl⟩
      have EJ : Hid (TJ.data.toList = lnH S ++ ifsL S.cs.o S.cs.n) := by show _ = _; rw [hTJ, ← HLE.out]
      replace J : Hid (Calls Tryz.prog 65 #[.slice (some ⟨g, 0, none⟩) (7 + j) cv, .string ⟨#[32]⟩] wr fun e w' => e = .returned (.string TJ) ∧ Below wr.heap.size wr w') := by rw [hTJ]; exact J.out
      rw [← hTJ] at LZ
      have LE : Hid (ln S = (lnH S ++ ifsL S.cs.o S.cs.n) ++ [10]) := rfl
      have FE : Hid (TJ ++ ⟨#[10]⟩ = bl (ln S0)) := by
        refine bl_of ?_
        rw [ba_app, EJ.out, HS.out, LE.out]
      have FZ : Hid ((ln S0).length ≤ 40000) := by
        show _ ≤ _
        rw [HS.out, LE.out, ← EJ.out, List.length_append, baLen]
        show TJ.size + 1 ≤ _
        omega
      clear JL LB hst hTJ
      generalize 7 + j = N7 at J HO hn ⊢
      go_wp2_with fail
      refine J.out.mono ?_
      rintro e w3 ⟨rfl, hb3⟩
      have B3 := hid (HB.out.trans (hb3.mono HB.out.size))
      have B4 : Hid (Below w.heap.size w w3) := B0.out.trans (B3.out.mono BW.out)
      go_wp2
      go_ret
      exact ⟨by rw [FE.out]; rfl, FZ.out, B4.out⟩
end Go.Proofs.YtmjolkagkeonfaaGreatDoor
