import Derived.Test.YtmjolkagkeonfaaDoorGN
import Derived.Test.YtmjolkagkeonfaaDoorGQ
import Derived.Test.YtmjolkagkeonfaaDoorDrawAsk
namespace Go.Proofs.YtmjolkagkeonfaaDoor
open Go.RowKit
set_option linter.unusedVariables false
/-! FnDenyWins, from what its draw gives. -/
/-- statements as a list -/
def stM (m : Nat) (R : Nat → St) : List St := (List.range m).map R
theorem stM_len (m : Nat) (R : Nat → St) : (stM m R).length = m := by simp [stM]
theorem stM_at {m : Nat} {R : Nat → St} {k : Nat} (hk : k < m) : stA (stM m R) k = R k := by simp [stM, stA, List.getD_eq_getElem?_getD, hk]
theorem Sts.stM {w : World} {a : Option Addr} {m cap : Nat} {R : Nat → St} (h : Sts w a m cap R) : Sts w a (stM m R).length cap (stA (stM m R)) := by
  rw [stM_len]
  refine ⟨h.1, ?_, fun k hk => by rw [stM_at hk]; exact h.2.2 k hk⟩
  rcases h.2.1 with h0 | ⟨b, off, e, hb, hc⟩
  · exact .inl h0
  · exact .inr ⟨b, off, e, hb, fun k hk => by rw [stM_at hk]; exact hc k hk⟩
/-- the list with a statement of stars behind, in the world w -/
structure StBh (w : World) (base : Nat) (ef : Int) (XA m : Nat) (R : Nat → St) (v : Value) : Prop where
  own : OwnSt w base v (stM m R ++ [stS ef (some ⟨XA, 0, none⟩)])
  row : RowAt w XA 9 #[.string ⟨#[42]⟩]
  inn : ∀ k, k < m → StIn w (R k)
theorem StBh.below {w w' : World} {base : Nat} {ef : Int} {XA m : Nat} {R : Nat → St} {v : Value} (h : StBh w base ef XA m R v) (hb : Below w.heap.size w w') : StBh w' base ef XA m R v :=
  ⟨h.own.below hb, h.row.below hb h.row.lt, fun k hk => (h.inn k hk).below hb⟩
theorem StBh.sts {w : World} {base : Nat} {ef : Int} {XA m : Nat} {R : Nat → St} {a : Option Addr} {c : Nat} (h : StBh w base ef XA m R (.slice a (m + 1) c)) : Sts w a (m + 1) c (stA (stM m R ++ [stS ef (some ⟨XA, 0, none⟩)])) := by
  have e : (stM m R ++ [stS ef (some ⟨XA, 0, none⟩)]).length = m + 1 := by simp [stM_len]
  have q := h.own
  rw [← e] at q
  have r := q.sts fun k hk => by
    by_cases hk2 : k < m
    · rw [stA_app (by rw [stM_len]; exact hk2), stM_at hk2]; exact h.inn k hk2
    · have e2 : k = (stM m R).length := by rw [stM_len]; rw [e] at hk; omega
      rw [e2, stA_last]
      have c0 := h.row.cell 0
      have st : Strs w (some ⟨XA, 0, none⟩) 1 1 (fun _ => ⟨#[42]⟩) := ⟨Nat.le_refl _, .inr ⟨XA, 0, rfl, h.row.lt, fun i hi => by obtain rfl : i = 0 := (by omega); exact c0⟩⟩
      exact ⟨st, st, st, ⟨Nat.le_refl _, .inl rfl⟩⟩
  rw [e] at r
  exact r
theorem stBh_B {ef : Int} {XA m : Nat} {R : Nat → St} (hB : ∀ k, k < m → StB (R k) 1048576) : ∀ k, k < m + 1 → StB (stA (stM m R ++ [stS ef (some ⟨XA, 0, none⟩)]) k) 1048576 := fun k hk => by
  by_cases hk2 : k < m
  · rw [stA_app (by rw [stM_len]; exact hk2), stM_at hk2]; exact hB k hk2
  · have e2 : k = (stM m R).length := by rw [stM_len]; omega
    rw [e2, stA_last]
    have sb : SSB ⟨some ⟨XA, 0, none⟩, 1, 1, fun _ => ⟨#[42]⟩⟩ 1048576 := ⟨by show 1 ≤ 1048576; omega, fun i _ => by show (⟨#[42]⟩ : ByteArray).size ≤ 1048576; decide⟩
    exact ⟨sb, sb, sb, ⟨Nat.zero_le _, fun i hi => absurd hi (Nat.not_lt_zero _)⟩⟩
theorem stBh_same {ef : Int} {XA m : Nat} {R : Nat → St} : (∀ k, k < m → stA (stM m R ++ [stS ef (some ⟨XA, 0, none⟩)]) k = R k) ∧ stA (stM m R ++ [stS ef (some ⟨XA, 0, none⟩)]) m = stS ef (some ⟨XA, 0, none⟩) := by
  refine ⟨fun k hk => by rw [stA_app (by rw [stM_len]; exact hk), stM_at hk], ?_⟩
  have := stA_last (stM m R) (stS ef (some ⟨XA, 0, none⟩))
  rw [stM_len] at this
  exact this
/-- one statement appended: the length is named -/
theorem append_stN {ops : Array Oper} {rest : List Oper} {o : Oper} {a : Act} {Q : Exit → Act → World → Prop} (base : Nat) (wr : World) (hgd : o.guard = none) (s x : Operand)
    (ho : o.op = .call { callee := .builtin .append, args := #[s, x], argTypes := #[23, 23] })
    (v : Value) (L : List St) (e : St) (n : Nat) (hn : (L ++ [e]).length = n) (hs : a.eval s = v) (hown : OwnSt wr base v L) (hsz : base ≤ wr.heap.size)
    (hx : a.eval x = .slice (some ⟨wr.heap.size, 0, none⟩) 1 1) (hlen : L.length ≤ 1048576)
    (h : ∀ a' c' w', OwnSt w' base (.slice a' n c') (L ++ [e]) → wr.grownBy w' v.ownBlock → wpList Tryd.prog ops Q rest (a.put o.dst (.slice a' n c')) w') :
    wpList Tryd.prog ops Q (o :: rest) a (wr.alloc (.cells #[.int .i64 e.ef, .slice e.wo.ad e.wo.n e.wo.cap, .slice e.wa.ad e.wa.n e.wa.cap, .slice e.wi.ad e.wi.n e.wi.cap, .slice e.cs.ad e.cs.n e.cs.cap] 33)) := by
  refine append_st base wr hgd s x ho v L e hs hown hsz hx hlen fun v' w' h1 h2 => ?_
  obtain ⟨a', c', rfl⟩ := h1.slice
  rw [hn] at h1 ⊢
  exact h a' c' w' h1 h2
set_option maxRecDepth 20000 in
set_option maxHeartbeats 8000000 in
theorem denyWalk (a : Option Addr) (len cap : Nat) (hlen : len ≤ 1048576) (w : World)
    (KD : Hid (Calls Tryd.prog 4 #[.slice a len cap] w fun e w' => ∃ v q, e = .returned (.tuple #[v, .agg #[.string q.wo, .string q.wa, .string q.wi, .string q.fr, .int .i64 q.tm]]) ∧ StD w' v ∧ AqS q ∧ Below w.heap.size w w')) :
    Calls Tryd.prog 3 #[.slice a len cap] w fun e w' => e = .returned (.bool true) ∧ Below w.heap.size w w' := by
  have d0 : ¬ (1048576 : Int) < (len : Int) := by omega
  go_enter Tryd.func3, Tryd.ntmps3
  go_wp2_with fail
  refine KD.out.mono ?_
  rintro e w1 ⟨v, q, rfl, hD, hA, hb1⟩
  obtain ⟨a1, m, cap1, R, rfl, hS, hB, hm, hn⟩ := hD.ex
  have HS := hid hS
  have HB := hid hB
  have HN := hid hn
  have B1 := hid hb1
  have HA := hid hA
  clear KD hS hB hn hb1 hA hD d0
  go_upto_region 4 with fail
  obtain ⟨W2, hW2⟩ : ∃ W, W = w1.alloc (.cells #[.string q.wo, .string q.wa, .string q.wi, .string q.fr, .int .i64 q.tm] 25) := ⟨_, rfl⟩
  have B2 : Hid (Below w.heap.size w W2) := by rw [hW2]; exact B1.out.alloc B1.out.size _
  have S2 : Hid (Sts W2 a1 m cap1 R) := by rw [hW2]; exact HS.out.below ((Below.refl _ _).alloc (Nat.le_refl _) _)
  have Q2 : Hid (RowAt W2 w1.heap.size 25 #[.string q.wo, .string q.wa, .string q.wi, .string q.fr, .int .i64 q.tm]) := by rw [hW2]; exact RowAt.new _ _ _
  rw [← hW2]
  clear hW2 HS B1
  obtain ⟨X, hX⟩ : ∃ x, x = w1.heap.size := ⟨_, rfl⟩
  rw [← hX] at Q2 ⊢
  clear hX
  have KI := fun wx (hb : Below W2.heap.size W2 wx) => hid (iJudge a1 m cap1 R (by omega) HB.out q HA.out.aqB wx (S2.out.below hb))
  have KS := fun wx (hb : Below W2.heap.size W2 wx) => hid (sJudge a1 m cap1 R (by omega) HB.out q HA.out.aqB wx (S2.out.below hb))
  have KP := fun wx (hb : Below W2.heap.size W2 wx) => hid (sPolF a1 m cap1 R (by omega) HB.out wx (S2.out.below hb))
  have KE := fun (wx : World) (ad : Option Addr) => hid (iJudge ad 0 0 R (by omega) (fun k hk => absurd hk (Nat.not_lt_zero _)) q HA.out.aqB wx ⟨Nat.le_refl _, .inl rfl, fun k hk => absurd hk (Nat.not_lt_zero _)⟩)
  have e0 := jdV_nil R q
  rw [e0] at KE
  clear e0
  obtain ⟨V, hV⟩ : ∃ x, x = jdV m R q := ⟨_, rfl⟩
  rw [← hV] at KI KS
  have HV := hid hV
  clear hV
  obtain ⟨PV, hPV⟩ : ∃ v, v = plV m R := ⟨_, rfl⟩
  have HPV := hid (hPV ▸ plV_0 (m := m) (R := R))
  rw [← hPV] at KP
  clear hPV
  obtain ⟨qwo, qwa, qwi, qfr, qtm⟩ := q
  dsimp only at KI KS KE Q2 ⊢
  have c0 := Q2.out.cell 0
  have c1 := Q2.out.cell 1
  have c2 := Q2.out.cell 2
  have c3 := Q2.out.cell 3
  have c4 := Q2.out.cell 4
  go_wp2_with fail
  refine (KI W2 (Below.refl _ _)).out.mono ?_
  rintro e w3 ⟨rfl, hb3⟩
  have B3 := hid hb3
  have Q3 := hid (Q2.out.below hb3 Q2.out.lt)
  clear hb3 c0 c1 c2 c3 c4
  have c0 := Q3.out.cell 0
  have c1 := Q3.out.cell 1
  have c2 := Q3.out.cell 2
  have c3 := Q3.out.cell 3
  have c4 := Q3.out.cell 4
  go_wp2_with fail
  refine (KS w3 B3.out).out.mono ?_
  rintro e w4 ⟨rfl, hb4⟩
  obtain ⟨W4, hW4⟩ : ∃ W, W = w4.alloc (.cells #[] 33) := ⟨_, rfl⟩
  have B4' : Hid (Below W2.heap.size W2 w4) := B3.out.trans (hb4.mono B3.out.size)
  have B4 : Hid (Below W2.heap.size W2 W4) := by rw [hW4]; exact B4'.out.alloc B4'.out.size _
  have Q4 : Hid (RowAt W4 X 25 #[.string qwo, .string qwa, .string qwi, .string qfr, .int .i64 qtm]) := Q2.out.below B4.out Q2.out.lt
  clear hb4 c0 c1 c2 c3 c4 B3 Q3
  have c0 := Q4.out.cell 0
  have c1 := Q4.out.cell 1
  have c2 := Q4.out.cell 2
  have c3 := Q4.out.cell 3
  have c4 := Q4.out.cell 4
  rw [hW4] at c0 c1 c2 c3 c4
  go_wp2_with fail
  rw [← hW4]
  clear hW4 B4' c0 c1 c2 c3 c4
  refine (KE W4 _).out.mono ?_
  rintro e w5 ⟨rfl, hb5⟩
  have B5 : Hid (Below W2.heap.size W2 w5) := B4.out.trans (hb5.mono B4.out.size)
  clear hb5 B4 Q4 KE KS
  go_wp2_with fail
  refine (KP w5 B5.out).out.mono ?_
  rintro e w6 ⟨rfl, hb6⟩
  have B6 : Hid (Below W2.heap.size W2 w6) := B5.out.trans (hb6.mono B5.out.size)
  clear hb6 B5 KP
  have BW : Hid (∀ wx, Below W2.heap.size W2 wx → Below w.heap.size w wx) := fun wx hb => B2.out.trans (hb.mono B2.out.size)
  by_cases hp0 : PV = 0
  case neg =>
    have dp : (PV == 0) = false := beq_eq_false_iff_ne.2 hp0
    go_wp2
    go_ret
    exact ⟨rfl, BW.out _ B6.out⟩
  subst hp0
  by_cases h50 : m = 50
  · subst h50
    go_wp2
    go_ret
    exact ⟨rfl, BW.out _ B6.out⟩
  have d50 : ((m : Int) == 50) = false := beq_eq_false_iff_ne.2 (by omega)
  have d51 : ¬ (m : Int) = 50 := by omega
  have PL := hid (HPV.out.1 rfl)
  have O7 := hid (OwnSt.empty w6)
  have b7 : Hid (Below w6.heap.size w6 (w6.alloc (.cells #[] 33))) := (Below.refl _ _).alloc (Nat.le_refl _) _
  clear HPV
  go_wp2_with fail
  go_loopw [6, 7] (fun v i wr => ∃ (L : List St) (ix : Int), ix = (m : Int) - 1 - (L.length : Int) ∧ i = .int .i64 ix ∧ L.length ≤ m ∧ OwnSt wr w6.heap.size v L ∧ (∀ j, j < L.length → stA L j = R (m - 1 - j)) ∧ Below w6.heap.size w6 wr) (fun _ i _ => (intOf i + 1).toNat)
  case atStart => exact ⟨[], (m : Int) - 1, by simp, rfl, Nat.zero_le _, O7.out, fun j hj => absurd hj (Nat.not_lt_zero _), b7.out⟩
  case round =>
    obtain ⟨L, ix, hix, rfl, hL, hO, hR, hb⟩ := hrel
    obtain ⟨WR, hWR⟩ : ∃ v, v = wr := ⟨_, rfl⟩
    subst hWR
    have OW := hid hO
    have RW := hid hR
    have BR := hid hb
    have hsz := hb.size
    have B8 : Hid (Below W2.heap.size W2 WR) := B6.out.trans (hb.mono B6.out.size)
    obtain ⟨av, cv, hv⟩ := hO.slice
    clear hO hR hb O7 b7
    by_cases hlt : L.length < m
    · have d0 : (0 : Int) ≤ ix := by omega
      obtain ⟨n, rfl⟩ := Int.eq_ofNat_of_zero_le d0
      have hn1 : (n : Int) < (m : Int) := by omega
      have hnm : n < m := by omega
      rcases (S2.out.below B8.out).2.1 with h00 | ⟨b, off, rfl, hbl, hc⟩
      · omega
      obtain ⟨c0, c1, c2, c3, c4⟩ := hc n hnm
      obtain ⟨E, hE⟩ : ∃ E, E = R n := ⟨_, rfl⟩
      rw [← hE] at c0 c1 c2 c3 c4
      have HE := hid hE
      have HIX := hid hix
      clear hc hE hix
      go_wp2_with ((at_builtin; refine append_st w6.heap.size _ rfl (.tmp 50) (.tmp 55) rfl _ L E rfl OW.out hsz rfl (by omega) ?_; intro v8 w8 hO8 hg8))
      have eL : Hid (n = m - 1 - L.length) := by have := HIX.out; show n = m - 1 - L.length; omega
      have B9 : Hid (Below w6.heap.size w6 w8) := BR.out.grown hg8 BR.out.size (fun g hg => (OW.out.row hg).1)
      have R9 : Hid (∀ j, j < (L ++ [E]).length → stA (L ++ [E]) j = R (m - 1 - j)) := fun j hj => by
        by_cases e : j < L.length
        · rw [stA_app e]; exact RW.out j e
        · have e2 : j = L.length := by simp at hj; omega
          rw [e2, stA_last, HE.out, eL.out]
      have O9 := hid hO8
      clear hO8 hg8
      go_wp2
      go_roundw
      case rel => exact ⟨L ++ [E], _, by have := HIX.out; simp; omega, rfl, by simp; omega, O9.out, R9.out, B9.out⟩
      case measure => simp [intOf]
    · have d0 : ¬ (0 : Int) ≤ ix := by omega
      have hLm : L.length = m := by omega
      have JR : Hid (jdV L.length (stA L) ⟨qwo, qwa, qwi, qfr, qtm⟩ = V) := by rw [HV.out, hLm]; exact jdV_rev fun k hk => RW.out k (by omega)
      have HIX := hid hix
      clear hix
      subst hv
      obtain ⟨W9, hW9⟩ : ∃ W, W = WR.alloc (.cells #[.string ⟨#[42]⟩] 9) := ⟨_, rfl⟩
      have A9 : Hid (RowAt W9 WR.heap.size 9 #[.string ⟨#[42]⟩]) := by rw [hW9]; exact RowAt.new _ _ _
      have b9 : Hid (Below WR.heap.size WR W9) := by rw [hW9]; exact (Below.refl _ _).alloc (Nat.le_refl _) _
      have B9 : Hid (Below W2.heap.size W2 W9) := B8.out.trans (b9.out.mono B8.out.size)
      go_upto_region 15 with fail
      rw [← hW9]
      clear hW9
      have z10 : Hid (Below W9.heap.size W9 W9) := Below.refl _ _
      have E10 := hid (OwnSt.empty W9)
      have y10 : Hid (Below W9.heap.size W9 (W9.alloc (.cells #[] 33))) := (Below.refl _ _).alloc (Nat.le_refl _) _
      have s10 : Hid (Sts (W9.alloc (.cells #[] 33)) a1 (stM m R).length cap1 (stA (stM m R))) := ((S2.out.below B9.out).below y10.out).stM
      go_upto_region 16 with (first
        | (at_builtin; refine append_sts W9.heap.size _ rfl (.tmp 58) (.tmp 59) rfl _ [] (stM m R) rfl E10.out y10.out.size a1 cap1 (by rw [stM_len]; rfl) HN.out s10.out (by rw [stM_len]; simp; omega) ?_; intro v10 u10 hO10 hg10; have G10 : Hid (Below W9.heap.size W9 u10) := y10.out.grown hg10 y10.out.size (fun g hg => (E10.out.row hg).1); have P10 := hid hO10; clear hO10 hg10)
        | (at_builtin; refine append_stN W9.heap.size _ rfl (.tmp 60) (.tmp 65) rfl _ _ (stS 2 (some ⟨WR.heap.size, 0, none⟩)) (m + 1) (by simp [stM_len]) rfl P10.out G10.out.size rfl (by simp [stM_len]; omega) ?_; intro ad cd W11 hQ10 hh10; have b10 : Hid (Below W9.heap.size W9 W11) := G10.out.grown hh10 G10.out.size (fun g hg => (P10.out.row hg).1)))
      have T10 : Hid (StBh W11 W9.heap.size 2 WR.heap.size m R (.slice ad (m + 1) cd)) := ⟨hQ10, (A9.out.below z10.out A9.out.lt).below b10.out (Nat.lt_of_lt_of_le A9.out.lt z10.out.size), fun k hk => (((S2.out.below B9.out).2.2 k hk).below b10.out)⟩
      have B10 : Hid (Below W2.heap.size W2 W11) := B9.out.trans (b10.out.mono B9.out.size)
      clear E10 y10 s10 hQ10 hh10 P10 G10
      have z20 := b10
      have E20 := hid (OwnSt.empty W11)
      have y20 : Hid (Below W11.heap.size W11 (W11.alloc (.cells #[] 33))) := (Below.refl _ _).alloc (Nat.le_refl _) _
      have s20 : Hid (Sts (W11.alloc (.cells #[] 33)) a1 (stM m R).length cap1 (stA (stM m R))) := ((S2.out.below B10.out).below y20.out).stM
      go_upto_region 17 with (first
        | (at_builtin; refine append_sts W11.heap.size _ rfl (.tmp 67) (.tmp 68) rfl _ [] (stM m R) rfl E20.out y20.out.size a1 cap1 (by rw [stM_len]; rfl) HN.out s20.out (by rw [stM_len]; simp; omega) ?_; intro v20 u20 hO20 hg20; have G20 : Hid (Below W11.heap.size W11 u20) := y20.out.grown hg20 y20.out.size (fun g hg => (E20.out.row hg).1); have P20 := hid hO20; clear hO20 hg20)
        | (at_builtin; refine append_stN W11.heap.size _ rfl (.tmp 69) (.tmp 74) rfl _ _ (stS 1 (some ⟨WR.heap.size, 0, none⟩)) (m + 1) (by simp [stM_len]) rfl P20.out G20.out.size rfl (by simp [stM_len]; omega) ?_; intro al cl W12 hQ20 hh20; have b20 : Hid (Below W11.heap.size W11 W12) := G20.out.grown hh20 G20.out.size (fun g hg => (P20.out.row hg).1)))
      have T20 : Hid (StBh W12 W11.heap.size 1 WR.heap.size m R (.slice al (m + 1) cl)) := ⟨hQ20, (A9.out.below z20.out A9.out.lt).below b20.out (Nat.lt_of_lt_of_le A9.out.lt z20.out.size), fun k hk => (((S2.out.below B10.out).2.2 k hk).below b20.out)⟩
      have B20 : Hid (Below W2.heap.size W2 W12) := B10.out.trans (b20.out.mono B10.out.size)
      clear E20 y20 s20 hQ20 hh20 P20 G20
      have D12 := hid (T10.out.below b20.out)
      have L12 : Hid (OwnSt W12 w6.heap.size (.slice av L.length cv) L) := ((OW.out.below b9.out).below b10.out).below b20.out
      have I12 : Hid (∀ k, k < L.length → StIn W12 (stA L k)) := fun k hk => by rw [RW.out k hk]; exact (S2.out.below B20.out).2.2 _ (by omega)
      have LB : Hid (∀ k, k < L.length → StB (stA L k) 1048576) := fun k hk => by rw [RW.out k hk]; exact HB.out _ (by omega)
      clear z10 z20 b10 b20 b9 T10 A9 OW B9 B10 B8
      have KA := fun wx (hb : Below W12.heap.size W12 wx) => hid (iJudge al (m + 1) cl _ (by omega) (stBh_B HB.out) ⟨qwo, qwa, qwi, qfr, qtm⟩ HA.out.aqB wx (T20.out.below hb).sts)
      have KD2 := fun wx (hb : Below W12.heap.size W12 wx) => hid (iJudge ad (m + 1) cd _ (by omega) (stBh_B HB.out) ⟨qwo, qwa, qwi, qfr, qtm⟩ HA.out.aqB wx (D12.out.below hb).sts)
      have KL := fun wx (hb : Below W12.heap.size W12 wx) => hid (iJudge av L.length cv _ (by omega) LB.out ⟨qwo, qwa, qwi, qfr, qtm⟩ HA.out.aqB wx ((L12.out.below hb).sts fun k hk => (I12.out k hk).below hb))
      rw [jdV_deny (R := R) PL.out h50 stBh_same.1 stBh_same.2 (by have := HA.out.wo; dsimp only at this ⊢; omega) (by have := HA.out.wa; dsimp only at this ⊢; omega) (by have := HA.out.wi; dsimp only at this ⊢; omega)] at KD2
      rw [JR.out, hLm] at KL
      have JA := hid (jdV_allow (R := R) (q := ⟨qwo, qwa, qwi, qfr, qtm⟩) PL.out h50 (stBh_same (ef := 1) (XA := WR.heap.size)).1 stBh_same.2 (by have := HA.out.wo; dsimp only at this ⊢; omega) (by have := HA.out.wa; dsimp only at this ⊢; omega) (by have := HA.out.wi; dsimp only at this ⊢; omega))
      obtain ⟨VA, hVA⟩ : ∃ x, x = jdV (m + 1) (stA (stM m R ++ [stS 1 (some ⟨WR.heap.size, 0, none⟩)])) ⟨qwo, qwa, qwi, qfr, qtm⟩ := ⟨_, rfl⟩
      rw [← hVA] at KA JA
      rw [← HV.out] at JA
      clear hVA
      dsimp only at KA KD2 KL
      have Q12 := hid (Q2.out.below B20.out Q2.out.lt)
      have c0 := Q12.out.cell 0
      have c1 := Q12.out.cell 1
      have c2 := Q12.out.cell 2
      have c3 := Q12.out.cell 3
      have c4 := Q12.out.cell 4
      go_wp2_with fail
      refine (KA W12 (Below.refl _ _)).out.mono ?_
      rintro e w13 ⟨rfl, hb13⟩
      have B13 := hid hb13
      have Q13 := hid (Q12.out.below hb13 Q12.out.lt)
      clear hb13 c0 c1 c2 c3 c4
      have c0 := Q13.out.cell 0
      have c1 := Q13.out.cell 1
      have c2 := Q13.out.cell 2
      have c3 := Q13.out.cell 3
      have c4 := Q13.out.cell 4
      have FIN : Hid (∀ wx, Below W12.heap.size W12 wx → Below w.heap.size w wx) := fun wx hb => BW.out _ (B20.out.trans (hb.mono B20.out.size))
      have TAIL := hid (And.intro KL KD2)
      clear KA KL KD2 L12 I12 LB D12 T20 JR
      rcases JA.out with ⟨j1, j2⟩ | ⟨j1, j2⟩
      · subst j1
        subst j2
        go_wp2_with fail
        refine (TAIL.out.1 w13 B13.out).out.mono ?_
        rintro e w14 ⟨rfl, hb14⟩
        have B14 : Hid (Below W12.heap.size W12 w14) := B13.out.trans (hb14.mono B13.out.size)
        have Q14 := hid (Q12.out.below B14.out Q12.out.lt)
        clear hb14 c0 c1 c2 c3 c4
        have c0 := Q14.out.cell 0
        have c1 := Q14.out.cell 1
        have c2 := Q14.out.cell 2
        have c3 := Q14.out.cell 3
        have c4 := Q14.out.cell 4
        go_wp2_with fail
        refine (TAIL.out.2 w14 B14.out).out.mono ?_
        rintro e w15 ⟨rfl, hb15⟩
        have B15 : Hid (Below W12.heap.size W12 w15) := B14.out.trans (hb15.mono B14.out.size)
        clear hb15 c0 c1 c2 c3 c4
        go_wp2
        go_ret
        exact ⟨rfl, FIN.out _ B15.out⟩
      · have dv : (V == 2) = false := beq_eq_false_iff_ne.2 j1
        subst j2
        go_wp2_with fail
        refine (TAIL.out.1 w13 B13.out).out.mono ?_
        rintro e w14 ⟨rfl, hb14⟩
        have B14 : Hid (Below W12.heap.size W12 w14) := B13.out.trans (hb14.mono B13.out.size)
        have Q14 := hid (Q12.out.below B14.out Q12.out.lt)
        clear hb14 c0 c1 c2 c3 c4
        have c0 := Q14.out.cell 0
        have c1 := Q14.out.cell 1
        have c2 := Q14.out.cell 2
        have c3 := Q14.out.cell 3
        have c4 := Q14.out.cell 4
        go_wp2_with fail
        refine (TAIL.out.2 w14 B14.out).out.mono ?_
        rintro e w15 ⟨rfl, hb15⟩
        have B15 : Hid (Below W12.heap.size W12 w15) := B14.out.trans (hb15.mono B14.out.size)
        clear hb15 c0 c1 c2 c3 c4
        go_wp2
        go_ret
        exact ⟨rfl, FIN.out _ B15.out⟩
end Go.Proofs.YtmjolkagkeonfaaDoor
