import Derived.Test.YtekdphfifdfmbaaLawRns
namespace Go.Proofs.Ytekdphfifdfmbaa
open Go.RowKit
/-! A table: what the laws do with it. -/
set_option maxRecDepth 20000 in
set_option maxHeartbeats 2000000 in
theorem szTb (s f : Int) (a0 : Option Addr) (n0 c0 : Nat) (o0 : Nat → En) (a : Option Addr) (m cap : Nat) (R : Nat → Rn) (l : Nat) (hl : l ≤ 1048576) (hn : n0 ≤ 9223372036854775807) (hs : ∀ k, k < n0 → (o0 k).ky.size ≤ 9223372036854775807 ∧ (o0 k).tx.size ≤ 9223372036854775807) (hm : m ≤ 9223372036854775807) (hR : RnIn R m) (w : World) (h0 : Ens w a0 n0 c0 o0) (h : Rns w a m cap R) :
    Calls Try.prog 19 #[.agg #[.int .i64 s, .int .i64 f, .slice a0 n0 c0, .slice a m cap], .int .i64 l] w fun e w' => e = .returned (.int .i64 (if n0 + szEn o0 n0 + m + szR R m ≤ l then ((l - n0 - szEn o0 n0 - m - szR R m : Nat) : Int) else -1)) ∧ Below w.heap.size w w' := by
  obtain ⟨W1, hW1⟩ : ∃ W, W = w.alloc (.cells #[.int .i64 s, .int .i64 f, .slice a0 n0 c0, .slice a m cap] 49) := ⟨_, rfl⟩
  have R1 : Hid (RowAt W1 w.heap.size 49 #[.int .i64 s, .int .i64 f, .slice a0 n0 c0, .slice a m cap]) := by rw [hW1]; exact RowAt.new _ _ _
  have B1 : Hid (Below w.heap.size w W1) := by rw [hW1]; exact balEn (Below.refl _ _) _
  have E1 := hid (h0.below B1.out)
  have N1 := hid (h.below B1.out)
  have r2 := R1.out.cell 2
  have K1 := hid (szRn a0 n0 c0 o0 l hl hn hs W1 E1.out)
  have HR := hid hR
  have HW1 := hid hW1
  clear hW1 h0 h hs hR
  by_cases hf : n0 + szEn o0 n0 ≤ l
  · rw [if_pos hf] at K1
    obtain ⟨v, hv⟩ : ∃ v : Nat, v = l - n0 - szEn o0 n0 := ⟨_, rfl⟩
    rw [← hv] at K1 ⊢
    have d0 : ¬ (v : Int) < 0 := by omega
    have hv1 : v ≤ 1048576 := by omega
    obtain ⟨RV, hRV⟩ : ∃ x : Int, x = if n0 + szEn o0 n0 + m + szR R m ≤ l then ((v - m - szR R m : Nat) : Int) else -1 := ⟨_, rfl⟩
    rw [← hRV]
    have HRV : Hid (RV = if m + szR R m ≤ v then ((v - m - szR R m : Nat) : Int) else -1) := by
      show _ = _
      rw [hRV]
      by_cases q : m + szR R m ≤ v
      · rw [if_pos (by omega), if_pos q]
      · rw [if_neg (by omega), if_neg q]
    clear hRV hv hf
    go_enter Try.func19, Try.ntmps19
    go_upto_region 1 with fail
    rw [← HW1.out]
    go_wp2_with fail
    refine K1.out.mono ?_
    rintro e w2 ⟨rfl, hb2⟩
    have r3 := (R1.out.below hb2 R1.out.lt).cell 3
    have B2 := hid (B1.out.trans (hb2.mono B1.out.size))
    have K2 := hid (szRns a m cap R v hv1 hm HR.out w2 (N1.out.below hb2))
    rw [← HRV.out] at K2
    clear hb2 K1 r2
    by_cases hneg : RV < 0
    · have hx : RV = -1 := by
        have := HRV.out
        by_cases q : m + szR R m ≤ v
        · rw [if_pos q] at this; omega
        · rw [if_neg q] at this; exact this
      subst hx
      clear HRV
      go_wp2_with fail
      refine K2.out.mono ?_
      rintro e w3 ⟨rfl, hb3⟩
      have B3 := hid (B2.out.trans (hb3.mono B2.out.size))
      clear hb3 K2
      go_wp2
      go_ret
      exact ⟨rfl, B3.out⟩
    · clear HRV
      go_wp2_with fail
      refine K2.out.mono ?_
      rintro e w3 ⟨rfl, hb3⟩
      have B3 := hid (B2.out.trans (hb3.mono B2.out.size))
      clear hb3 K2
      go_wp2
      go_ret
      exact ⟨rfl, B3.out⟩
  · rw [if_neg hf] at K1
    rw [if_neg (by omega)]
    have d0 : (-1 : Int) < 0 := by omega
    clear hf
    go_enter Try.func19, Try.ntmps19
    go_upto_region 1 with fail
    rw [← HW1.out]
    go_wp2_with fail
    refine K1.out.mono ?_
    rintro e w2 ⟨rfl, hb2⟩
    have B2 := hid (B1.out.trans (hb2.mono B1.out.size))
    clear hb2 K1
    go_wp2
    go_ret
    exact ⟨rfl, B2.out⟩
set_option maxRecDepth 20000 in
set_option maxHeartbeats 2000000 in
theorem eqTb (s f : Int) (a0 : Option Addr) (n0 c0 : Nat) (o0 : Nat → En) (a : Option Addr) (m cap : Nat) (R : Nat → Rn) (a0' : Option Addr) (c0' : Nat) (a' : Option Addr) (cap' : Nat) (R' : Nat → Rn) (hn : n0 ≤ 1048576) (hm : m ≤ 1048576) (hR : ∀ k, k < m → (R k).n = (R' k).n ∧ (R k).o = (R' k).o ∧ (R k).n ≤ 1048576) (w : World) (h0 : Ens w a0 n0 c0 o0) (h : Rns w a m cap R) (h0' : Ens w a0' n0 c0' o0) (h' : Rns w a' m cap' R') :
    Calls Try.prog 24 #[.agg #[.int .i64 s, .int .i64 f, .slice a0 n0 c0, .slice a m cap], .agg #[.int .i64 s, .int .i64 f, .slice a0' n0 c0', .slice a' m cap']] w fun e w' => e = .returned (.bool true) ∧ Below w.heap.size w w' := by
  have ds : (s != s) = false := by simp
  have df : (f != f) = false := by simp
  obtain ⟨W2, hW2⟩ : ∃ W, W = (w.alloc (.cells #[.int .i64 s, .int .i64 f, .slice a0 n0 c0, .slice a m cap] 53)).alloc (.cells #[.int .i64 s, .int .i64 f, .slice a0' n0 c0', .slice a' m cap'] 53) := ⟨_, rfl⟩
  have B2 : Below w.heap.size w W2 := by rw [hW2]; exact balEn (balEn (Below.refl _ _) _) _
  have hJ : Hid (RowAt W2 w.heap.size 53 #[.int .i64 s, .int .i64 f, .slice a0 n0 c0, .slice a m cap]) := by rw [hW2]; exact (RowAt.new _ _ _).alloc _
  have hF : Hid (RowAt W2 (w.heap.size + 1) 53 #[.int .i64 s, .int .i64 f, .slice a0' n0 c0', .slice a' m cap']) := by rw [hW2]; exact RowAt.next _ _ _ (by rw [size_al])
  have K := hid (eqRn a0 n0 c0 a0' c0' o0 hn W2 (h0.below B2) (h0'.below B2))
  have N := hid (h.below B2)
  have N' := hid (h'.below B2)
  have x0 := hJ.out.cell 0
  have y0 := hF.out.cell 0
  have x1 := hJ.out.cell 1
  have y1 := hF.out.cell 1
  have x2 := hJ.out.cell 2
  have y2 := hF.out.cell 2
  have HB := hid B2
  have HR := hid hR
  clear h h' h0 h0' B2 hR
  go_enter Try.func24, Try.ntmps24
  go_upto_region 1 with fail
  rw [← hW2]
  clear hW2
  go_wp2_with fail
  refine K.out.mono ?_
  rintro e w3 ⟨rfl, hb⟩
  have x3 := (hJ.out.below hb hJ.out.lt).cell 3
  have y3 := (hF.out.below hb hF.out.lt).cell 3
  have B3 := hid (HB.out.trans (hb.mono HB.out.size))
  have K2 := hid (eqRns a m cap R a' cap' R' hm HR.out w3 (N.out.below hb) (N'.out.below hb))
  clear hb x0 y0 x1 y1 x2 y2 K
  go_wp2_with fail
  refine K2.out.mono ?_
  rintro e w4 ⟨rfl, hb⟩
  have B4 := hid (B3.out.trans (hb.mono B3.out.size))
  clear hb
  go_wp2
  go_ret
  exact ⟨rfl, B4.out⟩
/-- a table that was made anew -/
def MkT (w : World) (n0 : Nat) (o0 : Nat → En) (m : Nat) (R : Nat → Rn) (g gr : Nat) (G : Nat → Nat) : Prop :=
  FRow w g 34 (n0 * 4) (enF o0) ∧ FRow w gr 28 m (rnTo R G m) ∧ ∀ k, k < m → FRow w (G k) 34 ((R k).n * 4) (enF (R k).o)
theorem MkT.below {w w' : World} {n0 : Nat} {o0 : Nat → En} {m : Nat} {R : Nat → Rn} {g gr : Nat} {G : Nat → Nat} (h : MkT w n0 o0 m R g gr G) (hb : Below w.heap.size w w') : MkT w' n0 o0 m R g gr G :=
  ⟨h.1.below hb h.1.lt, h.2.1.below hb h.2.1.lt, fun k hk => (h.2.2 k hk).below hb (h.2.2 k hk).lt⟩
theorem MkT.ens {w : World} {n0 : Nat} {o0 : Nat → En} {m : Nat} {R : Nat → Rn} {g gr : Nat} {G : Nat → Nat} (h : MkT w n0 o0 m R g gr G) : Ens w (some ⟨g, 0, none⟩) n0 n0 o0 := Ens.of_row h.1
theorem MkT.rns {w : World} {n0 : Nat} {o0 : Nat → En} {m : Nat} {R : Nat → Rn} {g gr : Nat} {G : Nat → Nat} (h : MkT w n0 o0 m R g gr G) : Rns w (some ⟨gr, 0, none⟩) m m (mkR R G) :=
  ⟨Nat.le_refl _, .inr ⟨gr, 0, rfl, h.2.1.lt, fun k hk => by
    have := h.2.1.cell hk
    rw [show rnTo R G m k = .slice (some ⟨G k, 0, none⟩) (R k).n (R k).n by unfold rnTo; rw [if_pos hk]] at this
    rw [Nat.zero_add]; exact this⟩, fun k hk => Ens.of_row (h.2.2 k hk)⟩
theorem oneTb (s f : Int) (a0 : Option Addr) (n0 c0 : Nat) (a : Option Addr) (m cap : Nat) : (#[.int .i64 s, .int .i64 f, .slice a0 n0 c0, .slice a m cap] : Array Value).all (·.oneCell') = true := by simp [Value.oneCell']
set_option maxRecDepth 20000 in
set_option maxHeartbeats 4000000 in
theorem toTb (s f : Int) (a0 : Option Addr) (n0 c0 : Nat) (o0 : Nat → En) (a : Option Addr) (m cap : Nat) (R : Nat → Rn) (hn : n0 ≤ 1048576) (hm : m ≤ 1048576) (hR : ∀ k, k < m → (R k).n ≤ 1048576) (w : World) (h0 : Ens w a0 n0 c0 o0) (h : Rns w a m cap R) :
    Calls Try.prog 21 #[.agg #[.int .i64 s, .int .i64 f, .slice a0 n0 c0, .slice a m cap]] w fun e w' => ∃ g gr G, e = .returned (.agg #[.int .i64 s, .int .i64 f, .slice (some ⟨g, 0, none⟩) n0 n0, .slice (some ⟨gr, 0, none⟩) m m]) ∧ MkT w' n0 o0 m R g gr G ∧ Below w.heap.size w w' := by
  obtain ⟨W0, hW0⟩ : ∃ W, W = ((w.alloc (.cells #[.int .i64 s, .int .i64 f, .slice a0 n0 c0, .slice a m cap] 49)).alloc (.cells #[.int .i64 0, .int .i64 0, .slice none 0 0, .slice none 0 0] 53)).alloc (.cells #[.int .i64 0, .int .i64 0, .slice none 0 0, .slice none 0 0] 53) := ⟨_, rfl⟩
  have A0 : RowAt W0 w.heap.size 49 #[.int .i64 s, .int .i64 f, .slice a0 n0 c0, .slice a m cap] := by rw [hW0]; exact ((RowAt.new _ _ _).alloc _).alloc _
  have R0 : RowAt W0 (w.heap.size + 1) 53 #[.int .i64 0, .int .i64 0, .slice none 0 0, .slice none 0 0] := by rw [hW0]; exact (RowAt.next _ _ _ (by rw [size_al])).alloc _
  have O0 : RowAt W0 (w.heap.size + 1 + 1) 53 #[.int .i64 0, .int .i64 0, .slice none 0 0, .slice none 0 0] := by rw [hW0]; exact RowAt.next _ _ _ (by simp only [size_al])
  have B0 : Below w.heap.size w W0 := by rw [hW0]; exact balEn (balEn (balEn (Below.refl _ _) _) _) _
  have S0 : W0.heap.size = w.heap.size + 1 + 1 + 1 := by rw [hW0]; simp only [size_al]
  obtain ⟨W1, hW1⟩ : ∃ W, W = W0.setCell ⟨w.heap.size + 1 + 1, 0, none⟩ (.int .i64 s) := ⟨_, rfl⟩
  obtain ⟨W2, hW2⟩ : ∃ W, W = W1.setCell ⟨w.heap.size + 1 + 1, 1, none⟩ (.int .i64 f) := ⟨_, rfl⟩
  have A1 : RowAt W1 w.heap.size 49 #[.int .i64 s, .int .i64 f, .slice a0 n0 c0, .slice a m cap] := by rw [hW1]; exact A0.other _ _ (by simp; omega)
  have A2 : RowAt W2 w.heap.size 49 #[.int .i64 s, .int .i64 f, .slice a0 n0 c0, .slice a m cap] := by rw [hW2]; exact A1.other _ _ (by simp; omega)
  have R2 : RowAt W2 (w.heap.size + 1) 53 #[.int .i64 0, .int .i64 0, .slice none 0 0, .slice none 0 0] := by rw [hW2, hW1]; exact (R0.other _ _ (by simp)).other _ _ (by simp)
  have O1 : RowAt W1 (w.heap.size + 1 + 1) 53 #[.int .i64 s, .int .i64 0, .slice none 0 0, .slice none 0 0] := by rw [hW1]; exact O0.set 0 _
  have O2 : RowAt W2 (w.heap.size + 1 + 1) 53 #[.int .i64 s, .int .i64 f, .slice none 0 0, .slice none 0 0] := by rw [hW2]; exact O1.set 1 _
  have B2 : Below w.heap.size w W2 := by rw [hW2, hW1]; exact (B0.setCell (by simp; omega) _).setCell (by simp; omega) _
  have S2 : W2.heap.size = w.heap.size + 1 + 1 + 1 := by rw [hW2, hW1]; simp [S0]
  have x0 := A0.cell 0
  have y0 := O0.cell 0
  have f0 := O0.free 0
  have x1 := A1.cell 1
  have y1 := O1.cell 1
  have f1 := O1.free 1
  have K1 := hid (toRn a0 n0 c0 o0 hn W2 (h0.below B2))
  have HH := hid h
  have HA := hid A2
  have HR := hid R2
  have HO := hid O2
  have HB := hid B2
  have HS := hid S2
  have HRR := hid hR
  have HW0 := hid hW0
  have HW1 := hid hW1
  have HW2 := hid hW2
  clear hW0 hW1 hW2 A0 R0 O0 B0 S0 A1 O1 A2 R2 O2 B2 S2 h0 h hR
  go_enter Try.func21, Try.ntmps21
  go_upto_region 2 with fail
  rw [← HW0.out]
  go_upto_region 3 with fail
  rw [← HW1.out]
  clear x0 y0 f0
  go_upto_region 4 with fail
  rw [← HW2.out]
  clear x1 y1 f1 HW0 HW1 HW2
  have x2 := HA.out.cell 2
  go_wp2_with fail
  refine K1.out.mono ?_
  rintro e w3 ⟨g, rfl, hF3, hg3, hb3⟩
  have A3 := hid (HA.out.below hb3 HA.out.lt)
  have R3 := hid (HR.out.below hb3 HR.out.lt)
  have O3 := hid (HO.out.below hb3 HO.out.lt)
  have B3 := hid (HB.out.trans (hb3.mono HB.out.size))
  obtain ⟨W4, hW4⟩ : ∃ W, W = w3.setCell ⟨w.heap.size + 1 + 1, 2, none⟩ (.slice (some ⟨g, 0, none⟩) n0 n0) := ⟨_, rfl⟩
  have gs : Hid (w.heap.size + 1 + 1 < g) := by have := HS.out; show _ < _; omega
  have A4 : Hid (RowAt W4 w.heap.size 49 #[.int .i64 s, .int .i64 f, .slice a0 n0 c0, .slice a m cap]) := by rw [hW4]; exact A3.out.other _ _ (by simp; omega)
  have R4 : Hid (RowAt W4 (w.heap.size + 1) 53 #[.int .i64 0, .int .i64 0, .slice none 0 0, .slice none 0 0]) := by rw [hW4]; exact R3.out.other _ _ (by simp)
  have O4 : Hid (RowAt W4 (w.heap.size + 1 + 1) 53 #[.int .i64 s, .int .i64 f, .slice (some ⟨g, 0, none⟩) n0 n0, .slice none 0 0]) := by rw [hW4]; exact O3.out.set 2 _
  have B4 : Hid (Below w.heap.size w W4) := by rw [hW4]; exact B3.out.setCell (by simp; omega) _
  have F4 : Hid (FRow W4 g 34 (n0 * 4) (enF o0)) := by rw [hW4]; exact hF3.other _ _ (by have := gs.out; simp; omega)
  have S4 : Hid (w.heap.size + 1 + 1 + 1 ≤ W4.heap.size) := by show _ ≤ _; rw [hW4]; have := hb3.size; have := HS.out; simp; omega
  have y2 := O3.out.cell 2
  have f2 := O3.out.free 2
  have HW4 := hid hW4
  clear hW4 hF3 hg3 hb3 HA HR HO HB HS A3 R3 O3 B3 K1 x2
  go_upto_region 5 with fail
  rw [← HW4.out]
  clear y2 f2 HW4
  have x3 := A4.out.cell 3
  have K2 := hid (toRns a m cap R hm HRR.out W4 (HH.out.below B4.out))
  go_wp2_with fail
  refine K2.out.mono ?_
  rintro e w5 ⟨rfl, G, hF5, hG5, hb5⟩
  have R5 := hid (R4.out.below hb5 R4.out.lt)
  have O5 := hid (O4.out.below hb5 O4.out.lt)
  have B5 := hid (B4.out.trans (hb5.mono B4.out.size))
  have F5 := hid (F4.out.below hb5 F4.out.lt)
  obtain ⟨W6, hW6⟩ : ∃ W, W = w5.setCell ⟨w.heap.size + 1 + 1, 3, none⟩ (.slice (some ⟨W4.heap.size, 0, none⟩) m m) := ⟨_, rfl⟩
  have R6 : Hid (RowAt W6 (w.heap.size + 1) 53 #[.int .i64 0, .int .i64 0, .slice none 0 0, .slice none 0 0]) := by rw [hW6]; exact R5.out.other _ _ (by simp)
  have O6 : RowAt W6 (w.heap.size + 1 + 1) 53 #[.int .i64 s, .int .i64 f, .slice (some ⟨g, 0, none⟩) n0 n0, .slice (some ⟨W4.heap.size, 0, none⟩) m m] := by rw [hW6]; exact O5.out.set 3 _
  have B6 : Hid (Below w.heap.size w W6) := by rw [hW6]; exact B5.out.setCell (by simp; omega) _
  have M6 : Hid (MkT W6 n0 o0 m R g W4.heap.size G ∧ w.heap.size + 1 < g ∧ w.heap.size + 1 < W4.heap.size ∧ ∀ k, k < m → w.heap.size + 1 < G k) := by
    have s4 := S4.out
    have g4 := gs.out
    rw [hW6]
    exact ⟨⟨F5.out.other _ _ (by simp; omega), hF5.other _ _ (by simp; omega), fun k hk => (hG5 k hk).1.other _ _ (by have := (hG5 k hk).2; simp; omega)⟩, by omega, by omega, fun k hk => by have := (hG5 k hk).2; omega⟩
  have y3 := O5.out.cell 3
  have f3 := O5.out.free 3
  have z0 := O6.cell 0
  have z1 := O6.cell 1
  have z2 := O6.cell 2
  have z3 := O6.cell 3
  have HW6 := hid hW6
  clear hW6 hF5 hG5 hb5 A4 R4 O4 B4 F4 R5 O5 B5 F5 K2 x3 O6
  go_upto_region 6 with fail
  rw [← HW6.out]
  clear y3 f3 HW6
  go_wp2_with (refine wpList_store_row rfl 53 (.tmp 2) (.tmp 18) rfl (w.heap.size + 1) #[.int .i64 s, .int .i64 f, .slice (some ⟨g, 0, none⟩) n0 n0, .slice (some ⟨W4.heap.size, 0, none⟩) m m] rfl rfl _ _ R6.out (by kernel_rfl) rfl (oneTb _ _ _ _ _ _ _ _) ?_)
  refine bodyPost_ret (v := .agg #[.int .i64 s, .int .i64 f, .slice (some ⟨g, 0, none⟩) n0 n0, .slice (some ⟨W4.heap.size, 0, none⟩) m m]) ?_ rfl ⟨g, W4.heap.size, G, rfl, ?_, below_setRow B6.out _ _ (by omega)⟩
  · exact results_cell_row Try.results21 _ _ (w.heap.size + 1) _ _ _ _ rfl (R6.out.setRow _) Try.underlying53 rfl (by kernel_rfl)
  · obtain ⟨⟨m1, m2, m3⟩, q1, q2, q3⟩ := M6.out
    exact ⟨m1.setRow9 _ (by omega), m2.setRow9 _ (by omega), fun k hk => (m3 k hk).setRow9 _ (by have := q3 k hk; omega)⟩
end Go.Proofs.Ytekdphfifdfmbaa
