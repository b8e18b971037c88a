import Derived.Test.YtokjfffcciddhaaGreatDoorQB
namespace Go.Proofs.YtokjfffcciddhaaGreatDoor
open Go.RowKit
/-! A bucket: what the laws do with it (by genlawbk.py). -/
theorem FRow.setRowB {w : World} {b : Nat} {t : TypeId} {n : Nat} {f : Nat → Value} (h : FRow w b t n f) (c : Array Value) {g : Nat} (hn : b ≠ g) : FRow (w.setRow g c) b t n f := by
  obtain ⟨cs, h1, h2, h3⟩ := h; exact ⟨cs, h1.otherRow g c hn, h2, h3⟩
set_option maxRecDepth 20000 in
set_option maxHeartbeats 2000000 in
theorem szBk (s : Int) (kp : Bool) (q : Int) (a0 : Option Addr) (n0 c0 : Nat) (o0 : Nat → Lr) (a : Option Addr) (m cap : Nat) (o : Nat → Ve) (l : Nat) (hl : l ≤ 1048576) (hn : n0 ≤ 9223372036854775807) (hs : ∀ k, k < n0 → (o0 k).px.size ≤ 9223372036854775807) (hm : m ≤ 9223372036854775807) (hR : ∀ k, k < m → (o k).ky.size ≤ 9223372036854775807 ∧ (o k).dt.size ≤ 9223372036854775807) (w : World) (h0 : Lrs w a0 n0 c0 o0) (h : Ves w a m cap o) :
    Calls Tryz.prog 11 #[.agg #[.int .i64 s, .bool kp, .int .i64 q, .slice a0 n0 c0, .slice a m cap], .int .i64 l] w fun e w' => e = .returned (.int .i64 (if n0 + szLr o0 n0 + m + szVe o m ≤ l then ((l - n0 - szLr o0 n0 - m - szVe o m : Nat) : Int) else -1)) ∧ Below w.heap.size w w' := by
  obtain ⟨W1, hW1⟩ : ∃ W, W = w.alloc (.cells #[.int .i64 s, .bool kp, .int .i64 q, .slice a0 n0 c0, .slice a m cap] 31) := ⟨_, rfl⟩
  have R1 : Hid (RowAt W1 w.heap.size 31 #[.int .i64 s, .bool kp, .int .i64 q, .slice a0 n0 c0, .slice a m cap]) := by rw [hW1]; exact RowAt.new _ _ _
  have B1 : Hid (Below w.heap.size w W1) := by rw [hW1]; exact balLr (Below.refl _ _) _
  have E1 := hid (h0.below B1.out)
  have N1 := hid (h.below B1.out)
  have r2 := R1.out.cell 3
  have K1 := hid (szLrs a0 n0 c0 o0 l hl hn hs W1 E1.out)
  have HR := hid hR
  have HW1 := hid hW1
  clear hW1 h0 h hs hR
  by_cases hf : n0 + szLr o0 n0 ≤ l
  · rw [if_pos hf] at K1
    obtain ⟨v, hv⟩ : ∃ v : Nat, v = l - n0 - szLr o0 n0 := ⟨_, rfl⟩
    rw [← hv] at K1 ⊢
    have d0 : ¬ (v : Int) < 0 := by omega
    have hv1 : v ≤ 1048576 := by omega
    obtain ⟨RV, hRV⟩ : ∃ x : Int, x = if n0 + szLr o0 n0 + m + szVe o m ≤ l then ((v - m - szVe o m : Nat) : Int) else -1 := ⟨_, rfl⟩
    rw [← hRV]
    have HRV : Hid (RV = if m + szVe o m ≤ v then ((v - m - szVe o m : Nat) : Int) else -1) := by
      show _ = _
      rw [hRV]
      by_cases q : m + szVe o m ≤ v
      · rw [if_pos (by omega), if_pos q]
      · rw [if_neg (by omega), if_neg q]
    clear hRV hv hf
    go_enter Tryz.func11, Tryz.ntmps11
    go_upto_region 1 with fail
    rw [← HW1.out]
    go_wp2_with fail
    refine K1.out.mono ?_
    rintro e w2 ⟨rfl, hb2⟩
    have r3 := (R1.out.below hb2 R1.out.lt).cell 4
    have B2 := hid (B1.out.trans (hb2.mono B1.out.size))
    have K2 := hid (szVes a m cap o v hv1 hm HR.out w2 (N1.out.below hb2))
    rw [← HRV.out] at K2
    clear hb2 K1 r2
    by_cases hneg : RV < 0
    · have hx : RV = -1 := by
        have := HRV.out
        by_cases q : m + szVe o m ≤ v
        · rw [if_pos q] at this; omega
        · rw [if_neg q] at this; exact this
      subst hx
      clear HRV
      go_wp2_with fail
      refine K2.out.mono ?_
      rintro e w3 ⟨rfl, hb3⟩
      have B3 := hid (B2.out.trans (hb3.mono B2.out.size))
      clear hb3 K2
      go_wp2
      go_ret
      exact ⟨rfl, B3.out⟩
    · clear HRV
      go_wp2_with fail
      refine K2.out.mono ?_
      rintro e w3 ⟨rfl, hb3⟩
      have B3 := hid (B2.out.trans (hb3.mono B2.out.size))
      clear hb3 K2
      go_wp2
      go_ret
      exact ⟨rfl, B3.out⟩
  · rw [if_neg hf] at K1
    rw [if_neg (by omega)]
    have d0 : (-1 : Int) < 0 := by omega
    clear hf
    go_enter Tryz.func11, Tryz.ntmps11
    go_upto_region 1 with fail
    rw [← HW1.out]
    go_wp2_with fail
    refine K1.out.mono ?_
    rintro e w2 ⟨rfl, hb2⟩
    have B2 := hid (B1.out.trans (hb2.mono B1.out.size))
    clear hb2 K1
    go_wp2
    go_ret
    exact ⟨rfl, B2.out⟩
set_option maxRecDepth 20000 in
set_option maxHeartbeats 2000000 in
theorem eqBk (s : Int) (kp : Bool) (q : Int) (a0 : Option Addr) (n0 c0 : Nat) (o0 : Nat → Lr) (a : Option Addr) (m cap : Nat) (o : Nat → Ve) (a0' : Option Addr) (c0' : Nat) (a' : Option Addr) (cap' : Nat) (hn : n0 ≤ 1048576) (hm : m ≤ 1048576) (w : World) (h0 : Lrs w a0 n0 c0 o0) (h : Ves w a m cap o) (h0' : Lrs w a0' n0 c0' o0) (h' : Ves w a' m cap' o) :
    Calls Tryz.prog 26 #[.agg #[.int .i64 s, .bool kp, .int .i64 q, .slice a0 n0 c0, .slice a m cap], .agg #[.int .i64 s, .bool kp, .int .i64 q, .slice a0' n0 c0', .slice a' m cap']] w fun e w' => e = .returned (.bool true) ∧ Below w.heap.size w w' := by
  have ds : (s != s) = false := by simp
  have dk : (kp != kp) = false := by simp
  have df : (q != q) = false := by simp
  obtain ⟨W2, hW2⟩ : ∃ W, W = (w.alloc (.cells #[.int .i64 s, .bool kp, .int .i64 q, .slice a0 n0 c0, .slice a m cap] 44)).alloc (.cells #[.int .i64 s, .bool kp, .int .i64 q, .slice a0' n0 c0', .slice a' m cap'] 44) := ⟨_, rfl⟩
  have B2 : Below w.heap.size w W2 := by rw [hW2]; exact balLr (balLr (Below.refl _ _) _) _
  have hJ : Hid (RowAt W2 w.heap.size 44 #[.int .i64 s, .bool kp, .int .i64 q, .slice a0 n0 c0, .slice a m cap]) := by rw [hW2]; exact (RowAt.new _ _ _).alloc _
  have hF : Hid (RowAt W2 (w.heap.size + 1) 44 #[.int .i64 s, .bool kp, .int .i64 q, .slice a0' n0 c0', .slice a' m cap']) := by rw [hW2]; exact RowAt.next _ _ _ (by rw [size_al])
  have K := hid (eqLrs a0 n0 c0 a0' c0' o0 hn W2 (h0.below B2) (h0'.below B2))
  have N := hid (h.below B2)
  have N' := hid (h'.below B2)
  have x0 := hJ.out.cell 0
  have y0 := hF.out.cell 0
  have x1 := hJ.out.cell 1
  have y1 := hF.out.cell 1
  have x2 := hJ.out.cell 2
  have y2 := hF.out.cell 2
  have x3 := hJ.out.cell 3
  have y3 := hF.out.cell 3
  have HB := hid B2
  clear h h' h0 h0' B2
  go_enter Tryz.func26, Tryz.ntmps26
  go_upto_region 1 with fail
  rw [← hW2]
  clear hW2
  go_wp2_with fail
  refine K.out.mono ?_
  rintro e w3 ⟨rfl, hb⟩
  have x4 := (hJ.out.below hb hJ.out.lt).cell 4
  have y4 := (hF.out.below hb hF.out.lt).cell 4
  have B3 := hid (HB.out.trans (hb.mono HB.out.size))
  have K2 := hid (eqVes a m cap a' cap' o hm w3 (N.out.below hb) (N'.out.below hb))
  clear hb x0 y0 x1 y1 x2 y2 x3 y3 K
  go_wp2_with fail
  refine K2.out.mono ?_
  rintro e w4 ⟨rfl, hb⟩
  have B4 := hid (B3.out.trans (hb.mono B3.out.size))
  clear hb
  go_wp2
  go_ret
  exact ⟨rfl, B4.out⟩
/-- a bucket that was made anew -/
def MkB (w : World) (n0 : Nat) (o0 : Nat → Lr) (m : Nat) (o : Nat → Ve) (g gr : Nat) : Prop :=
  FRow w g 110 (n0 * 3) (lrF o0) ∧ FRow w gr 79 (m * 7) (veF o)
theorem MkB.below {w w' : World} {n0 : Nat} {o0 : Nat → Lr} {m : Nat} {o : Nat → Ve} {g gr : Nat} (h : MkB w n0 o0 m o g gr) (hb : Below w.heap.size w w') : MkB w' n0 o0 m o g gr :=
  ⟨h.1.below hb h.1.lt, h.2.below hb h.2.lt⟩
theorem MkB.lrs {w : World} {n0 : Nat} {o0 : Nat → Lr} {m : Nat} {o : Nat → Ve} {g gr : Nat} (h : MkB w n0 o0 m o g gr) : Lrs w (some ⟨g, 0, none⟩) n0 n0 o0 := Lrs.of_row h.1
theorem MkB.ves {w : World} {n0 : Nat} {o0 : Nat → Lr} {m : Nat} {o : Nat → Ve} {g gr : Nat} (h : MkB w n0 o0 m o g gr) : Ves w (some ⟨gr, 0, none⟩) m m o := Ves.of_row h.2
theorem oneBk (s : Int) (kp : Bool) (q : Int) (a0 : Option Addr) (n0 c0 : Nat) (a : Option Addr) (m cap : Nat) : (#[.int .i64 s, .bool kp, .int .i64 q, .slice a0 n0 c0, .slice a m cap] : Array Value).all (·.oneCell') = true := by simp [Value.oneCell']
set_option maxRecDepth 20000 in
set_option maxHeartbeats 4000000 in
theorem toBk (s : Int) (kp : Bool) (q : Int) (a0 : Option Addr) (n0 c0 : Nat) (o0 : Nat → Lr) (a : Option Addr) (m cap : Nat) (o : Nat → Ve) (hn : n0 ≤ 1048576) (hm : m ≤ 1048576) (w : World) (h0 : Lrs w a0 n0 c0 o0) (h : Ves w a m cap o) :
    Calls Tryz.prog 18 #[.agg #[.int .i64 s, .bool kp, .int .i64 q, .slice a0 n0 c0, .slice a m cap]] w fun e w' => ∃ g gr, e = .returned (.agg #[.int .i64 s, .bool kp, .int .i64 q, .slice (some ⟨g, 0, none⟩) n0 n0, .slice (some ⟨gr, 0, none⟩) m m]) ∧ MkB w' n0 o0 m o g gr ∧ Below w.heap.size w w' := by
  obtain ⟨W0, hW0⟩ : ∃ W, W = ((w.alloc (.cells #[.int .i64 s, .bool kp, .int .i64 q, .slice a0 n0 c0, .slice a m cap] 31)).alloc (.cells #[.int .i64 0, .bool false, .int .i64 0, .slice none 0 0, .slice none 0 0] 44)).alloc (.cells #[.int .i64 0, .bool false, .int .i64 0, .slice none 0 0, .slice none 0 0] 44) := ⟨_, rfl⟩
  have A0 : RowAt W0 w.heap.size 31 #[.int .i64 s, .bool kp, .int .i64 q, .slice a0 n0 c0, .slice a m cap] := by rw [hW0]; exact ((RowAt.new _ _ _).alloc _).alloc _
  have R0 : RowAt W0 (w.heap.size + 1) 44 #[.int .i64 0, .bool false, .int .i64 0, .slice none 0 0, .slice none 0 0] := by rw [hW0]; exact (RowAt.next _ _ _ (by rw [size_al])).alloc _
  have O0 : RowAt W0 (w.heap.size + 1 + 1) 44 #[.int .i64 0, .bool false, .int .i64 0, .slice none 0 0, .slice none 0 0] := by rw [hW0]; exact RowAt.next _ _ _ (by simp only [size_al])
  have B0 : Below w.heap.size w W0 := by rw [hW0]; exact balLr (balLr (balLr (Below.refl _ _) _) _) _
  have S0 : W0.heap.size = w.heap.size + 1 + 1 + 1 := by rw [hW0]; simp only [size_al]

  obtain ⟨W1, hW1⟩ : ∃ W, W = W0.setCell ⟨w.heap.size + 1 + 1, 0, none⟩ (.int .i64 s) := ⟨_, rfl⟩
  have A1 : RowAt W1 w.heap.size 31 #[.int .i64 s, .bool kp, .int .i64 q, .slice a0 n0 c0, .slice a m cap] := by rw [hW1]; exact A0.other _ _ (by simp; omega)
  have R1 : RowAt W1 (w.heap.size + 1) 44 #[.int .i64 0, .bool false, .int .i64 0, .slice none 0 0, .slice none 0 0] := by rw [hW1]; exact R0.other _ _ (by simp)
  have O1 : RowAt W1 (w.heap.size + 1 + 1) 44 #[.int .i64 s, .bool false, .int .i64 0, .slice none 0 0, .slice none 0 0] := by rw [hW1]; exact O0.set 0 _
  have B1 : Below w.heap.size w W1 := by rw [hW1]; exact B0.setCell (by simp; omega) _
  have S1 : W1.heap.size = w.heap.size + 1 + 1 + 1 := by rw [hW1]; simp [S0]
  have x0 := A0.cell 0
  have y0 := O0.cell 0
  have f0 := O0.free 0

  obtain ⟨W2, hW2⟩ : ∃ W, W = W1.setCell ⟨w.heap.size + 1 + 1, 1, none⟩ (.bool kp) := ⟨_, rfl⟩
  have A2 : RowAt W2 w.heap.size 31 #[.int .i64 s, .bool kp, .int .i64 q, .slice a0 n0 c0, .slice a m cap] := by rw [hW2]; exact A1.other _ _ (by simp; omega)
  have R2 : RowAt W2 (w.heap.size + 1) 44 #[.int .i64 0, .bool false, .int .i64 0, .slice none 0 0, .slice none 0 0] := by rw [hW2]; exact R1.other _ _ (by simp)
  have O2 : RowAt W2 (w.heap.size + 1 + 1) 44 #[.int .i64 s, .bool kp, .int .i64 0, .slice none 0 0, .slice none 0 0] := by rw [hW2]; exact O1.set 1 _
  have B2 : Below w.heap.size w W2 := by rw [hW2]; exact B1.setCell (by simp; omega) _
  have S2 : W2.heap.size = w.heap.size + 1 + 1 + 1 := by rw [hW2]; simp [S1]
  have x1 := A1.cell 1
  have y1 := O1.cell 1
  have f1 := O1.free 1

  obtain ⟨W3, hW3⟩ : ∃ W, W = W2.setCell ⟨w.heap.size + 1 + 1, 2, none⟩ (.int .i64 q) := ⟨_, rfl⟩
  have A3 : RowAt W3 w.heap.size 31 #[.int .i64 s, .bool kp, .int .i64 q, .slice a0 n0 c0, .slice a m cap] := by rw [hW3]; exact A2.other _ _ (by simp; omega)
  have R3 : RowAt W3 (w.heap.size + 1) 44 #[.int .i64 0, .bool false, .int .i64 0, .slice none 0 0, .slice none 0 0] := by rw [hW3]; exact R2.other _ _ (by simp)
  have O3 : RowAt W3 (w.heap.size + 1 + 1) 44 #[.int .i64 s, .bool kp, .int .i64 q, .slice none 0 0, .slice none 0 0] := by rw [hW3]; exact O2.set 2 _
  have B3 : Below w.heap.size w W3 := by rw [hW3]; exact B2.setCell (by simp; omega) _
  have S3 : W3.heap.size = w.heap.size + 1 + 1 + 1 := by rw [hW3]; simp [S2]
  have x2 := A2.cell 2
  have y2 := O2.cell 2
  have f2 := O2.free 2

  have K1 := hid (toLrs a0 n0 c0 o0 hn W3 (h0.below B3))
  have HH := hid h
  have HA := hid A3
  have HR := hid R3
  have HO := hid O3
  have HB := hid B3
  have HS := hid S3
  have HW0 := hid hW0
  have HW1 := hid hW1
  have HW2 := hid hW2
  have HW3 := hid hW3
  clear hW0 hW1 hW2 hW3 A0 R0 O0 B0 S0 A1 R1 O1 B1 S1 A2 R2 O2 B2 S2 A3 R3 O3 B3 S3 h0 h
  go_enter Tryz.func18, Tryz.ntmps18
  go_upto_region 2 with fail
  rw [← HW0.out]
  go_upto_region 3 with fail
  rw [← HW1.out]
  clear x0 y0 f0
  go_upto_region 4 with fail
  rw [← HW2.out]
  clear x1 y1 f1
  go_upto_region 5 with fail
  rw [← HW3.out]
  clear x2 y2 f2 HW0 HW1 HW2 HW3
  have x3 := HA.out.cell 3
  go_wp2_with fail
  refine K1.out.mono ?_
  rintro e w3 ⟨rfl, hF3, hb3⟩
  obtain ⟨g, hg⟩ : ∃ g, g = W3.heap.size := ⟨_, rfl⟩
  rw [← hg] at hF3
  simp only [← hg]
  have gs : Hid (w.heap.size + 1 + 1 < g) := by have := HS.out; show _ < _; omega
  have A3 := hid (HA.out.below hb3 HA.out.lt)
  have R3 := hid (HR.out.below hb3 HR.out.lt)
  have O3 := hid (HO.out.below hb3 HO.out.lt)
  have B3 := hid (HB.out.trans (hb3.mono HB.out.size))
  obtain ⟨W4, hW4⟩ : ∃ W, W = w3.setCell ⟨w.heap.size + 1 + 1, 3, none⟩ (.slice (some ⟨g, 0, none⟩) n0 n0) := ⟨_, rfl⟩
  have A4 : Hid (RowAt W4 w.heap.size 31 #[.int .i64 s, .bool kp, .int .i64 q, .slice a0 n0 c0, .slice a m cap]) := by rw [hW4]; exact A3.out.other _ _ (by simp; omega)
  have R4 : Hid (RowAt W4 (w.heap.size + 1) 44 #[.int .i64 0, .bool false, .int .i64 0, .slice none 0 0, .slice none 0 0]) := by rw [hW4]; exact R3.out.other _ _ (by simp)
  have O4 : Hid (RowAt W4 (w.heap.size + 1 + 1) 44 #[.int .i64 s, .bool kp, .int .i64 q, .slice (some ⟨g, 0, none⟩) n0 n0, .slice none 0 0]) := by rw [hW4]; exact O3.out.set 3 _
  have B4 : Hid (Below w.heap.size w W4) := by rw [hW4]; exact B3.out.setCell (by simp; omega) _
  have F4 : Hid (FRow W4 g 110 (n0 * 3) (lrF o0)) := by rw [hW4]; exact hF3.other _ _ (by have := gs.out; simp; omega)
  have S4 : Hid (w.heap.size + 1 + 1 + 1 ≤ W4.heap.size) := by show _ ≤ _; rw [hW4]; have := hb3.size; have := HS.out; simp; omega
  have y3 := O3.out.cell 3
  have f3 := O3.out.free 3
  have HW4 := hid hW4
  clear hW4 hF3 hb3 HA HR HO HB HS A3 R3 O3 B3 K1 x3 hg
  go_upto_region 6 with fail
  rw [← HW4.out]
  clear y3 f3 HW4
  have x4 := A4.out.cell 4
  have K2 := hid (toVes a m cap o hm W4 (HH.out.below B4.out))
  go_wp2_with fail
  refine K2.out.mono ?_
  rintro e w5 ⟨rfl, hF5, hb5⟩
  obtain ⟨gr, hgr⟩ : ∃ g, g = W4.heap.size := ⟨_, rfl⟩
  rw [← hgr] at hF5
  simp only [← hgr]
  have gs5 : Hid (w.heap.size + 1 + 1 < gr) := by have := S4.out; show _ < _; omega
  have R5 := hid (R4.out.below hb5 R4.out.lt)
  have O5 := hid (O4.out.below hb5 O4.out.lt)
  have B5 := hid (B4.out.trans (hb5.mono B4.out.size))
  have F5 := hid (F4.out.below hb5 F4.out.lt)
  obtain ⟨W6, hW6⟩ : ∃ W, W = w5.setCell ⟨w.heap.size + 1 + 1, 4, none⟩ (.slice (some ⟨gr, 0, none⟩) m m) := ⟨_, rfl⟩
  have R6 : Hid (RowAt W6 (w.heap.size + 1) 44 #[.int .i64 0, .bool false, .int .i64 0, .slice none 0 0, .slice none 0 0]) := by rw [hW6]; exact R5.out.other _ _ (by simp)
  have O6 : RowAt W6 (w.heap.size + 1 + 1) 44 #[.int .i64 s, .bool kp, .int .i64 q, .slice (some ⟨g, 0, none⟩) n0 n0, .slice (some ⟨gr, 0, none⟩) m m] := by rw [hW6]; exact O5.out.set 4 _
  have B6 : Hid (Below w.heap.size w W6) := by rw [hW6]; exact B5.out.setCell (by simp; omega) _
  have M6 : Hid (MkB W6 n0 o0 m o g gr) := by
    have s4 := gs5.out
    have g4 := gs.out
    rw [hW6]
    exact ⟨F5.out.other _ _ (by simp; omega), hF5.other _ _ (by simp; omega)⟩
  have y4 := O5.out.cell 4
  have f4 := O5.out.free 4
  have z0 := O6.cell 0
  have z1 := O6.cell 1
  have z2 := O6.cell 2
  have z3 := O6.cell 3
  have z4 := O6.cell 4
  have HW6 := hid hW6
  clear hW6 hF5 hb5 A4 R4 O4 B4 F4 R5 O5 B5 F5 K2 x4 O6 hgr
  go_upto_region 7 with fail
  rw [← HW6.out]
  clear y4 f4 HW6
  go_wp2_with (refine wpList_store_row rfl 44 (.tmp 2) (.tmp 21) rfl (w.heap.size + 1) #[.int .i64 s, .bool kp, .int .i64 q, .slice (some ⟨g, 0, none⟩) n0 n0, .slice (some ⟨gr, 0, none⟩) m m] rfl rfl _ _ R6.out (by kernel_rfl) rfl (oneBk _ _ _ _ _ _ _ _ _) ?_)
  refine bodyPost_ret (v := .agg #[.int .i64 s, .bool kp, .int .i64 q, .slice (some ⟨g, 0, none⟩) n0 n0, .slice (some ⟨gr, 0, none⟩) m m]) ?_ rfl ⟨g, gr, rfl, ?_, below_setRow B6.out _ _ (by omega)⟩
  · exact results_cell_row Tryz.results18 _ _ (w.heap.size + 1) _ _ _ _ rfl (R6.out.setRow _) Tryz.underlying44 rfl (by kernel_rfl)
  · have g4 := gs.out
    have g5 := gs5.out
    exact ⟨M6.out.1.setRowB _ (by omega), M6.out.2.setRowB _ (by omega)⟩
end Go.Proofs.YtokjfffcciddhaaGreatDoor
