import Derived.Test.YtngkiokibldfjaaGreatDoorQB
import Derived.Test.YtngkiokibldfjaaGreatDoorQD
import Derived.Test.YtngkiokibldfjaaGreatDoorQC
namespace Go.Proofs.YtngkiokibldfjaaGreatDoor
open Go.RowKit
/-! The size of a row of operations. -/
set_option maxRecDepth 20000 in
set_option maxHeartbeats 4000000 in
theorem szOps (a : Option Addr) (n cap : Nat) (o : Nat → Op) (l : Nat) (hl : l ≤ 1048576) (hn : n ≤ 9223372036854775807) (hs : ∀ k, k < n → (o k).ky.size ≤ 9223372036854775807 ∧ (o k).dt.size ≤ 9223372036854775807) (w : World) (h : Exs w a n cap o) :
    Calls Tryz.prog 14 #[.slice a n cap, .int .i64 l] w fun e w' => e = .returned (.int .i64 (if n + szO o n ≤ l then ((l - n - szO o n : Nat) : Int) else -1)) ∧ Below w.heap.size w w' := by
  have HH := hid h
  have HS := hid hs
  clear h hs
  obtain ⟨RV, hRV⟩ : ∃ v : Int, v = if n + szO o n ≤ l then ((l - n - szO o n : Nat) : Int) else -1 := ⟨_, rfl⟩
  rw [← hRV]
  by_cases h0 : (l : Int) - (n : Int) < 0
  · rw [if_neg (by omega)] at hRV
    subst hRV
    go_enter Tryz.func14, Tryz.ntmps14
    go_wp2
    go_ret
    exact ⟨rfl, Below.refl _ _⟩
  obtain ⟨m, hm⟩ : ∃ m : Nat, m = l - n := ⟨_, rfl⟩
  have hme : (l : Int) - (n : Int) = m := by omega
  have HM := hid hm
  have hml : m + n = l ∧ True := ⟨by omega, trivial⟩
  clear hm
  go_enter Tryz.func14, Tryz.ntmps14
  go_wp2_with fail
  go_loopw [5, 1] (fun q y wr => ∃ (k : Nat), k ≤ n ∧ q = .int .i64 k ∧ szO o k ≤ m ∧ y = .int .i64 ((m - szO o k : Nat) : Int) ∧ Below w.heap.size w wr) (fun q _ _ => n - (intOf q).toNat)
  case atStart => exact ⟨0, Nat.zero_le _, rfl, Nat.zero_le _, by simp [szO], Below.refl _ _⟩
  case round =>
    obtain ⟨k, hk, rfl, hz, rfl, hB⟩ := hrel
    have HB := hid hB
    clear hB
    by_cases hlt : k < n
    · have hlt' : (k : Int) < (n : Int) := by omega
      have k0 : (0 : Int) ≤ (k : Int) := by omega
      rcases (HH.out.below HB.out).2 with h00 | ⟨b, off, rfl, hbl, hc⟩
      · omega
      obtain ⟨c0, c1, c2, c3, c4, c5⟩ := hc k hlt
      obtain ⟨s1, s2⟩ := HS.out k hlt
      have hz1 : szO o (k + 1) = szO o k + (o k).ky.size + (o k).dt.size := rfl
      have hzn := szO_mono o (show k + 1 ≤ n by omega)
      obtain ⟨I, hI⟩ : ∃ v, v = (o k).kd := ⟨_, rfl⟩
      obtain ⟨K, hK⟩ : ∃ v, v = (o k).ky := ⟨_, rfl⟩
      obtain ⟨D, hD⟩ : ∃ v, v = (o k).dt := ⟨_, rfl⟩
      obtain ⟨X, hX⟩ : ∃ v, v = (o k).kp := ⟨_, rfl⟩
      obtain ⟨Y, hY⟩ : ∃ v, v = (o k).at_ := ⟨_, rfl⟩
      obtain ⟨Z, hZ⟩ : ∃ v, v = (o k).tn := ⟨_, rfl⟩
      rw [← hI] at c0
      rw [← hK] at c1 s1 hz1
      rw [← hD] at c2 s2 hz1
      rw [← hX] at c3
      rw [← hY] at c4
      rw [← hZ] at c5
      clear hc hI hK hD hX hY hZ
      obtain ⟨r, hr⟩ : ∃ r, r = m - szO o k := ⟨_, rfl⟩
      rw [← hr]
      by_cases hfit : K.size + D.size ≤ r
      · obtain ⟨v, hv⟩ : ∃ v : Nat, v = r - K.size - D.size := ⟨_, rfl⟩
        have hpos : ¬ (v : Int) < 0 := by omega
        have hv1 : v ≤ 1048576 := by omega
        have Z1 : Hid (szO o (k + 1) ≤ m ∧ m - szO o (k + 1) = v) := by constructor <;> omega
        have hif : (if (K.size : Int) + D.size ≤ (r : Int) then (r : Int) - K.size - D.size else -1) = (v : Int) := by rw [if_pos (by omega)]; omega
        have S := szOp I K D X Y Z r (by omega) (by omega) s1 s2 wr
        rw [hif] at S
        have HS2 := hid S
        have HRV := hid hRV
        have HR2 := hid hr
        clear S hif hRV hr hz1 hv
        go_wp2_with fail
        refine HS2.out.mono ?_
        rintro e w2 ⟨rfl, hb2⟩
        have B2 := hid (HB.out.trans (hb2.mono HB.out.size))
        clear hb2 HB c0 c1 c2 c3 c4 c5 hfit hz hzn s1 s2
        go_wp2
        go_roundw
        case rel => exact ⟨k + 1, by omega, by go_num, Z1.out.1, by rw [Z1.out.2], B2.out⟩
        case measure => simp [intOf]; omega
      · have hneg : (-1 : Int) < 0 := by omega
        have hif : (if (K.size : Int) + D.size ≤ (r : Int) then (r : Int) - K.size - D.size else -1) = -1 := if_neg (by omega)
        rw [if_neg (by omega)] at hRV
        have S := szOp I K D X Y Z r (by omega) (by omega) s1 s2 wr
        rw [hif] at S
        have HS2 := hid S
        have HRV := hid hRV
        have HR2 := hid hr
        clear S hif hRV hr hz1
        go_wp2_with fail
        refine HS2.out.mono ?_
        rintro e w2 ⟨rfl, hb2⟩
        have B2 := hid (HB.out.trans (hb2.mono HB.out.size))
        clear hb2 HB
        go_wp2
        go_ret
        exact ⟨by rw [HRV.out]; rfl, B2.out⟩
    · have hlt' : ¬ (k : Int) < (n : Int) := by omega
      have hke : k = n := by omega
      subst hke
      rw [if_pos (by omega)] at hRV
      have HRV := hid hRV
      clear hRV
      go_wp2
      go_ret
      exact ⟨by rw [HRV.out, ← HM.out]; rfl, HB.out⟩
end Go.Proofs.YtngkiokibldfjaaGreatDoor
namespace Go.Proofs.YtngkiokibldfjaaGreatDoor
open Go.RowKit
set_option linter.unusedVariables false
/-! FnExactRunExtent: the law's walk. -/
def AnS (d1 : ByteArray) (s1 : Int) (L : List XOt) (w : World) (e : Ending) (w' : World) : Prop := (∃ v O, e = .returned (.agg #[.string d1, .int .i64 s1, v]) ∧ O.map Prod.fst = L ∧ w'.ownsRow w.heap.size 36 4 v O.length (xoL O) ∧ ∀ p ∈ O, OwnStrs w' w.heap.size p.2 p.1.ks) ∧ Below w.heap.size w w'
def AnX (d1 : ByteArray) (s1 : Int) (L : List XOt) (w : World) (e : Ending) (w' : World) : Prop := (∃ v O, e = .returned (.agg #[.string d1, .int .i64 s1, v]) ∧ O.map Prod.fst = L ∧ w'.ownsRow w.heap.size 36 4 v O.length (xoL O) ∧ (∀ p ∈ O, OwnStrs w' w.heap.size p.2 p.1.ks) ∧ O.Pairwise fun p q => ∀ g, p.2.ownBlock = some g → q.2.ownBlock ≠ some g) ∧ Below w.heap.size w w'
theorem szO_at (o : Nat → Op) {n k : Nat} (h : k < n) : (o k).ky.size + (o k).dt.size ≤ szO o n := by
  have h1 := szO_mono o (show k + 1 ≤ n by omega)
  have h2 : szO o (k + 1) = szO o k + (o k).ky.size + (o k).dt.size := rfl
  omega
/-- the program's answer stands, and so do the specification's and the boxes -/
structure RxG (W6 : World) (BS HI Y1 : Nat) (r1 : Array Value) (v : Value) (O : List (XOt × Value)) (wx : World) : Prop where
  r : RowAt wx Y1 33 r1
  b : wx.ownsRow HI 36 4 v O.length (xoL O)
  c : ∀ p ∈ O, OwnStrs wx HI p.2 p.1.ks
  p : Below BS W6 wx
  z : HI ≤ wx.heap.size
  h : BS < HI
  y : HI ≤ Y1
theorem RxG.below {W6 : World} {BS HI Y1 : Nat} {r1 : Array Value} {v : Value} {O : List (XOt × Value)} {A B : World} (g : RxG W6 BS HI Y1 r1 v O A) (hb : Below A.heap.size A B) : RxG W6 BS HI Y1 r1 v O B :=
  ⟨g.r.below hb g.r.lt, orKeep g.b fun k cs _ r => r.below hb r.lt, fun p hp => (g.c p hp).below hb, g.p.trans (hb.mono (by have := g.h; have := g.z; omega)), Nat.le_trans g.z hb.size, g.h, g.y⟩
theorem RxG.turn {W6 : World} {BS HI Y1 : Nat} {r1 : Array Value} {v : Value} {O : List (XOt × Value)} {A B : World} (g : RxG W6 BS HI Y1 r1 v O A) (hg : A.grownBy B (some BS)) : RxG W6 BS HI Y1 r1 v O B :=
  ⟨(hg.block Y1 g.r.lt (fun e => by have := Option.some.inj e; have := g.h; have := g.y; omega)).trans g.r, orKeep g.b fun k cs e r => (hg.block k r.lt (fun q => by have := Option.some.inj q; have := (orRow g.b e).1; have := g.h; omega)).trans r,
   fun p hp => orKeep (g.c p hp) fun k cs e r => (hg.block k r.lt (fun q => by have := Option.some.inj q; have := (orRow (g.c p hp) e).1; have := g.h; omega)).trans r,
   g.p.grown hg (by have := g.h; have := g.z; omega) (fun k e => by have := Option.some.inj e; omega), Nat.le_trans g.z hg.size, g.h, g.y⟩
set_option maxRecDepth 20000 in
set_option maxHeartbeats 8000000 in
theorem rx_walk (d : ByteArray) (s : Int) (a : Option Addr) (n cap : Nat) (o : Nat → Op) (hn9 : n ≤ 9223372036854775807) (hs9 : ∀ k, k < n → (o k).ky.size ≤ 9223372036854775807 ∧ (o k).dt.size ≤ 9223372036854775807) (hd1 : d.size ≤ 1048576) (hg : n + szO o n ≤ 1048576 - d.size) (d1 : ByteArray) (s1 : Int) (L : List XOt) (hL : L.length ≤ 2000) (h100 : ∀ x ∈ L, x.ks.length ≤ 100) (w : World) (hO : Exs w a n cap o)
    (HS : ∀ W b, Exs W b n n o → Calls Tryz.prog 10 #[.agg #[.string d, .int .i64 s], .slice b n n] W fun e w' => AnS d1 s1 L W e w')
    (HI : ∀ W b, Below w.heap.size w W → Exs W b n n o → Calls Tryz.prog 8 #[.agg #[.string d, .int .i64 s], .slice b n n] W fun e w' => AnX d1 s1 L W e w') :
    Calls Tryz.prog 5 #[.agg #[.string d, .int .i64 s], .slice a n cap] w fun e w' => e = .returned (.bool true) ∧ Below w.heap.size w w' := by
  have KS' := fun W b h => hid (HS W b h)
  have KI' := fun W b hb h => hid (HI W b hb h)
  obtain ⟨W0, hW0⟩ : ∃ W, W = w.alloc (.cells #[.string d, .int .i64 s] 46) := ⟨_, rfl⟩
  have b0 : Below w.heap.size w W0 := by rw [hW0]; exact (Below.refl _ _).alloc (Nat.le_refl _) _
  have A0 : Hid (RowAt W0 w.heap.size 46 #[.string d, .int .i64 s]) := by rw [hW0]; exact RowAt.new _ _ _
  have B0 := hid b0
  have HO := hid hO
  obtain ⟨xb, hxb⟩ : ∃ x, x = w.heap.size := ⟨_, rfl⟩
  have XB : Hid (∀ wx, Below W0.heap.size W0 wx → wx.cell? ⟨w.heap.size, 0, none⟩ = some (.string d) ∧ wx.cell? ⟨w.heap.size, 1, none⟩ = some (.int .i64 s)) := fun wx hb => ⟨(A0.out.below hb A0.out.lt).cell 0, (A0.out.below hb A0.out.lt).cell 1⟩
  have KE := hid (szExt d s 1048576 (by omega) (by omega) (by omega) W0)
  rw [if_pos (by omega)] at KE
  obtain ⟨l1, hl1⟩ : ∃ l : Nat, l = 1048576 - d.size := ⟨_, rfl⟩
  rw [show (1048576 : Int) - (d.size : Int) = (l1 : Int) by omega] at KE
  have hl9 : l1 ≤ 1048576 := by omega
  have KZ := fun wx (hb : Below w.heap.size w wx) => hid (szOps a n cap o l1 hl9 hn9 hs9 wx (HO.out.below hb))
  rw [← hl1] at hg
  rw [if_pos hg] at KZ
  obtain ⟨l2, hl2⟩ : ∃ l : Nat, l = l1 - n - szO o n := ⟨_, rfl⟩
  rw [← hl2] at KZ
  have hn1 : n ≤ 1048576 := by omega
  have KT := fun wx (hb : Below w.heap.size w wx) => hid (toOps a n cap o hn1 wx (HO.out.below hb))
  have KTE := fun wx => hid (toExt d s wx)
  have z1 : ¬ (l1 : Int) < 0 := by omega
  have z2 : ¬ (l2 : Int) < 0 := by omega
  obtain ⟨N, hN⟩ : ∃ N, N = L.length := ⟨_, rfl⟩
  have HN := hid hN
  have hN2 : N ≤ 1048576 := by omega
  have hk1 : Hid (∀ k, k < N → (xoO L k).n ≤ 1048576) := fun k _ => Nat.le_trans (xoO_n h100 k) (by decide)
  have KQ := fun wx a1 c1 a2 c2 (h1 : Outs wx a1 N c1 (xoO L)) (h2 : Outs wx a2 N c2 (xoO L)) => hid (eqRun d1 s1 a1 a2 N c1 c2 (xoO L) hN2 hk1.out wx h1 h2)
  have HL := hid hL
  have HC := hid h100
  clear HS HI hO hs9 hg hl1 hl2 hd1 hn9 hL h100 hN
  go_enter Tryz.func5, Tryz.ntmps5
  go_upto_region 2 with fail
  rw [← hW0]
  clear hW0 b0
  obtain ⟨x0, x1⟩ := XB.out W0 (Below.refl _ _)
  go_wp2_with fail
  refine KE.out.mono ?_
  rintro e w1 ⟨rfl, hb1⟩
  have P1 := hid hb1
  clear hb1 KE x0 x1
  go_wp2_with fail
  refine (KZ w1 (B0.out.trans (P1.out.mono B0.out.size))).out.mono ?_
  rintro e w2 ⟨rfl, hb2⟩
  have P2 : Hid (Below W0.heap.size W0 w2) := P1.out.trans (hb2.mono P1.out.size)
  clear hb2 KZ P1
  obtain ⟨x0, x1⟩ := XB.out w2 P2.out
  go_wp2_with fail
  refine (KTE w2).out.mono ?_
  rintro e w3 ⟨rfl, hb3⟩
  have P3 : Hid (Below W0.heap.size W0 w3) := P2.out.trans (hb3.mono P2.out.size)
  clear hb3 P2 x0 x1
  go_wp2_with fail
  refine (KT w3 (B0.out.trans (P3.out.mono B0.out.size))).out.mono ?_
  rintro e w4 ⟨rfl, hF4, hb4⟩
  have P4 : Hid (Below W0.heap.size W0 w4) := P3.out.trans (hb4.mono P3.out.size)
  have K5 := KS' w4 _ (Exs.of_row hF4)
  clear hF4 hb4 P3
  go_wp2_with fail
  refine K5.out.mono ?_
  rintro e w5 ⟨⟨v5, O5, rfl, h5a, h5b, h5c⟩, hb5⟩
  obtain ⟨a0, c0, hv5, hQ5⟩ := outs_own h5b h5c h5a
  rw [← HN.out] at hv5 hQ5
  subst hv5
  have P5 : Hid (Below W0.heap.size W0 w5) := P4.out.trans (hb5.mono P4.out.size)
  obtain ⟨W6, hW6⟩ : ∃ W, W = w5.alloc (.cells #[.string d1, .int .i64 s1, .slice a0 N c0] 33) := ⟨_, rfl⟩
  have b6 : Below w5.heap.size w5 W6 := by rw [hW6]; exact (Below.refl _ _).alloc (Nat.le_refl _) _
  have R6 : Hid (RowAt W6 w5.heap.size 33 #[.string d1, .int .i64 s1, .slice a0 N c0]) := by rw [hW6]; exact RowAt.new _ _ _
  have Q6 := hid (hQ5.below b6)
  have P6 : Hid (Below W0.heap.size W0 W6) := P5.out.trans (b6.mono P5.out.size)
  clear h5a h5b h5c hb5 hQ5 b6 K5 P4 P5
  go_upto_region 9 with ((refine wpList_store_row rfl 33 (.tmp 6) (.tmp 27) rfl w5.heap.size #[.string d1, .int .i64 s1, .slice a0 N c0] rfl rfl _ _ (RowAt.new w5 _ _) (by kernel_rfl) rfl (by simp [Value.oneCell']) ?_); rw [World.setRow_alloc_new])
  rw [← hW6]
  clear hW6
  obtain ⟨Y0, hY0⟩ : ∃ y, y = w5.heap.size := ⟨_, rfl⟩
  rw [← hY0] at R6 ⊢
  clear hY0
  obtain ⟨BS, hBS⟩ : ∃ x, x = W6.heap.size := ⟨_, rfl⟩
  have QB : Hid (∀ wx, Below BS W6 wx → Outs wx a0 N c0 (xoO L)) := fun wx hb => by rw [hBS] at hb; exact Q6.out.below hb
  have RB : Hid (∀ wx, Below BS W6 wx → wx.cell? ⟨Y0, 0, none⟩ = some (.string d1) ∧ wx.cell? ⟨Y0, 1, none⟩ = some (.int .i64 s1) ∧ wx.cell? ⟨Y0, 2, none⟩ = some (.slice a0 N c0)) := fun wx hb => by
    have r := R6.out.below hb (by rw [hBS]; exact R6.out.lt)
    exact ⟨r.cell 0, r.cell 1, r.cell 2⟩
  have XC : Hid (∀ wx, Below BS W6 wx → wx.cell? ⟨w.heap.size, 0, none⟩ = some (.string d) ∧ wx.cell? ⟨w.heap.size, 1, none⟩ = some (.int .i64 s)) := fun wx hb => XB.out wx (P6.out.trans (hb.mono (by rw [hBS]; exact P6.out.size)))
  have WB : Hid (∀ wx, Below BS W6 wx → Below w.heap.size w wx) := fun wx hb => B0.out.trans ((P6.out.trans (hb.mono (by rw [hBS]; exact P6.out.size))).mono B0.out.size)
  have K7 := KT W6 (WB.out W6 (Below.refl _ _))
  rw [← hBS] at K7
  have HBS := hid hBS
  clear Q6 R6 P6 XB B0 A0 hBS
  go_wp2_with fail
  refine K7.out.mono ?_
  rintro e w7 ⟨rfl, hF7, hb7⟩
  have F7 := hid hF7
  have P7 : Hid (Below BS W6 w7) := hb7
  have Z7 : Hid (BS < w7.heap.size) := hF7.lt
  clear hF7 hb7 K7
  obtain ⟨x0, x1⟩ := XC.out w7 P7.out
  go_wp2_with fail
  refine (KTE w7).out.mono ?_
  rintro e w8 ⟨rfl, hb8⟩
  have F8 := hid (F7.out.below hb8 F7.out.lt)
  have P8 : Hid (Below BS W6 w8) := P7.out.trans (hb8.mono (Nat.le_of_lt Z7.out))
  have Z8 : Hid (BS < w8.heap.size) := Nat.lt_of_lt_of_le Z7.out hb8.size
  have K9 := KI' w8 _ (WB.out _ P8.out) (Exs.of_row F8.out)
  clear hb8 x0 x1 F7 P7 Z7
  go_wp2_with fail
  refine K9.out.mono ?_
  rintro e w9 ⟨⟨v9, O9, rfl, h9a, h9b, h9c, h9d⟩, hb9⟩
  obtain ⟨a1, c1, hv9, hQ9⟩ := outs_own h9b h9c h9a
  obtain ⟨HI, hHI⟩ : ∃ x, x = w8.heap.size := ⟨_, rfl⟩
  rw [← hHI] at h9b h9c
  have hv9' := hv9
  rw [← HN.out] at hv9
  subst hv9
  have ZH : Hid (BS < HI) := by rw [hHI]; exact Z8.out
  have P9 : Hid (Below BS W6 w9) := P8.out.trans (hb9.mono (Nat.le_of_lt Z8.out))
  have F9 := hid (F8.out.below hb9 F8.out.lt)
  obtain ⟨W10, hW10⟩ : ∃ W, W = w9.alloc (.cells #[.string d1, .int .i64 s1, .slice a1 N c1] 33) := ⟨_, rfl⟩
  have b10 : Below w9.heap.size w9 W10 := by rw [hW10]; exact (Below.refl _ _).alloc (Nat.le_refl _) _
  have R10 : Hid (RowAt W10 w9.heap.size 33 #[.string d1, .int .i64 s1, .slice a1 N c1]) := by rw [hW10]; exact RowAt.new _ _ _
  have Z9 : HI ≤ w9.heap.size := by rw [hHI]; exact hb9.size
  have F10 := hid (F9.out.below b10 F9.out.lt)
  have P10 : Hid (Below BS W6 W10) := P9.out.trans (b10.mono (by have := ZH.out; omega))
  have Z10 : Hid (HI ≤ W10.heap.size) := Nat.le_trans Z9 b10.size
  -- the program's answer: its rows, whatever world keeps them
  have OA := hid h9a
  have OD := hid h9d
  have OB10 : Hid (W10.ownsRow HI 36 4 (.slice a1 N c1) O9.length (xoL O9)) := orKeep h9b fun g cs _ r => r.below b10 r.lt
  have OC10 : Hid (∀ p ∈ O9, OwnStrs W10 HI p.2 p.1.ks) := fun p hp => (h9c p hp).below b10
  have HV := hid hv9'
  have QA : Hid (∀ wx, wx.ownsRow HI 36 4 (.slice a1 N c1) O9.length (xoL O9) → (∀ p ∈ O9, OwnStrs wx HI p.2 p.1.ks) → Outs wx a1 N c1 (xoO L)) := fun wx h1 h2 => by
    obtain ⟨a2, c2, e, h⟩ := outs_own h1 h2 OA.out
    rw [HV.out] at e
    injection e with e1 e2 e3
    subst e1 e3
    rw [HN.out]; exact h
  clear h9a h9b h9c h9d hb9 hQ9 hv9' b10 K9 P8 P9 Z8 F8 F9 hHI
  go_upto_region 11 with ((refine wpList_store_row rfl 33 (.tmp 8) (.tmp 33) rfl w9.heap.size #[.string d1, .int .i64 s1, .slice a1 N c1] rfl rfl _ _ (RowAt.new w9 _ _) (by kernel_rfl) rfl (by simp [Value.oneCell']) ?_); rw [World.setRow_alloc_new])
  rw [← hW10]
  clear hW10
  obtain ⟨Y1, hY1⟩ : ∃ y, y = w9.heap.size := ⟨_, rfl⟩
  rw [← hY1] at R10 ⊢
  have G10 : Hid (RxG W6 BS HI Y1 #[.string d1, .int .i64 s1, .slice a1 N c1] (.slice a1 N c1) O9 W10) := ⟨R10.out, OB10.out, OC10.out, P10.out, Z10.out, ZH.out, by rw [hY1]; exact Z9⟩
  have YC : Hid (∀ wx, RowAt wx Y1 33 #[.string d1, .int .i64 s1, .slice a1 N c1] → wx.cell? ⟨Y1, 0, none⟩ = some (.string d1) ∧ wx.cell? ⟨Y1, 1, none⟩ = some (.int .i64 s1) ∧ wx.cell? ⟨Y1, 2, none⟩ = some (.slice a1 N c1)) := fun wx r => ⟨r.cell 0, r.cell 1, r.cell 2⟩
  clear hY1 R10 OB10 OC10 P10 Z10 Z9
  obtain ⟨x0, x1, x2⟩ := RB.out _ G10.out.p
  obtain ⟨y0, y1, y2⟩ := YC.out _ G10.out.r
  have K11 := KQ W10 _ _ _ _ (QA.out _ G10.out.b G10.out.c) (QB.out _ G10.out.p)
  go_wp2_with fail
  refine K11.out.mono ?_
  rintro e w11 ⟨rfl, hb11⟩
  have G11 := hid (G10.out.below hb11)
  have F11 := hid (F10.out.below hb11 F10.out.lt)
  clear hb11 K11 G10 F10 x0 x1 x2 y0 y1 y2
  go_wp2_with fail
  refine (KT w11 (WB.out _ G11.out.p)).out.mono ?_
  rintro e w12 ⟨rfl, hF12, hb12⟩
  have K12 := hid (eqOps (some ⟨BS, 0, none⟩) n n (some ⟨w11.heap.size, 0, none⟩) n o hn1 w12 (Exs.of_row (F11.out.below hb12 F11.out.lt)) (Exs.of_row hF12))
  have G12 := hid (G11.out.below hb12)
  have F12 := hid (F11.out.below hb12 F11.out.lt)
  clear hF12 hb12 G11 F11
  go_wp2_with fail
  refine K12.out.mono ?_
  rintro e w13 ⟨rfl, hb13⟩
  have G13 := hid (G12.out.below hb13)
  have F13 := hid (F12.out.below hb13 F12.out.lt)
  have K13 := hid (markOps BS n n 1 27 (n * 6) (Nat.le_refl _) (exF o) (Nat.le_refl _) hn1 (by decide) w13 F13.out)
  obtain ⟨KK, hKK⟩ : ∃ x, x = 1 + n * 6 := ⟨_, rfl⟩
  rw [← hKK] at K13
  have dK : ¬ (KK : Int) < 0 := by omega
  have dK2 : decide ((KK : Int) < 0) = false := by simp
  clear hb13 K12 G12 F12 hKK
  go_wp2_with fail
  refine K13.out.mono ?_
  rintro e w14 ⟨rfl, hg14⟩
  have G14 := hid (G13.out.turn hg14)
  clear hg14 K13 G13 F13
  obtain ⟨x0, x1, x2⟩ := RB.out _ G14.out.p
  obtain ⟨y0, y1, y2⟩ := YC.out _ G14.out.r
  have K14 := KQ w14 _ _ _ _ (QA.out _ G14.out.b G14.out.c) (QB.out _ G14.out.p)
  go_wp2_with fail
  refine K14.out.mono ?_
  rintro e w15 ⟨rfl, hb15⟩
  have G15 := hid (G14.out.below hb15)
  clear hb15 K14 G14 x0 x1 x2 y0 y1 y2 dK dK2
  obtain ⟨y0, y1, y2⟩ := YC.out _ G15.out.r
  obtain ⟨nn, hnn⟩ : ∃ nn : Nat → Nat, nn = fun k => (xoO L k).n := ⟨_, rfl⟩
  have K15 := hid (markX d1 s1 HL.out HC.out G15.out.b G15.out.c OA.out OD.out G15.out.z a1 c1 HV.out)
  rw [← HN.out, ← hnn] at K15
  have hnk : ∀ k, nn k ≤ 100 := fun k => by rw [hnn]; exact xoO_n HC.out k
  obtain ⟨MM, hMM⟩ : ∃ x, x = mkO nn 1 N := ⟨_, rfl⟩
  have KH : Hid (∀ wx, Outs wx a1 N c1 (mOut nn 1) → Calls Tryz.prog 21 #[.agg #[.string d1, .int .i64 s1, .slice a1 N c1], .int .i64 1] wx fun e w' => e = .returned (.int .i64 (MM : Int)) ∧ Below wx.heap.size wx w') := fun wx h => by
    have := heldRun d1 s1 a1 N c1 1 nn (Nat.le_refl _) hN2 (fun k _ => Nat.le_trans (hnk k) (by decide)) (by have := mkO_le hnk N; have := HL.out; have := HN.out; omega) wx h
    rw [← hMM] at this
    exact this
  rw [← hMM] at K15
  have n0 : ¬ (MM : Int) < 0 := by omega
  have n1 : ((MM : Int) != (MM : Int)) = false := by simp
  clear hMM hnk hnn
  go_wp2_with fail
  refine K15.out.mono ?_
  rintro e w16 ⟨rfl, hE16, hk16⟩
  have E16 := hid hE16
  have R16 : Hid (RowAt w16 Y1 33 #[.string d1, .int .i64 s1, .slice a1 N c1]) := hk16.2 _ _ _ G15.out.r (by decide) (by decide)
  have P16 : Hid (Below BS W6 w16) := G15.out.p.trans (hk16.1.mono (Nat.le_of_lt ZH.out))
  have Z16 : Hid (BS ≤ w16.heap.size) := by have := hk16.1.size; have := G15.out.z; have := ZH.out; show _ ≤ _; omega
  clear hE16 hk16 K15 G15 y0 y1 y2
  obtain ⟨y0, y1, y2⟩ := YC.out _ R16.out
  go_wp2_with fail
  refine (KH.out w16 E16.out).mono ?_
  rintro e w17 ⟨rfl, hb17⟩
  have E17 := hid (E16.out.below hb17)
  have R17 := hid (R16.out.below hb17 R16.out.lt)
  have P17 : Hid (Below BS W6 w17) := P16.out.trans (hb17.mono Z16.out)
  have Z17 : Hid (BS ≤ w17.heap.size) := Nat.le_trans Z16.out hb17.size
  clear hb17 E16 R16 P16 Z16 y0 y1 y2
  obtain ⟨x0, x1⟩ := XC.out _ P17.out
  go_wp2_with fail
  refine (KTE w17).out.mono ?_
  rintro e w18 ⟨rfl, hb18⟩
  have E18 := hid (E17.out.below hb18)
  have R18 := hid (R17.out.below hb18 R17.out.lt)
  have P18 : Hid (Below BS W6 w18) := P17.out.trans (hb18.mono Z17.out)
  have Z18 : Hid (BS ≤ w18.heap.size) := Nat.le_trans Z17.out hb18.size
  clear hb18 E17 R17 P17 Z17 x0 x1
  go_wp2_with fail
  refine (KT w18 (WB.out _ P18.out)).out.mono ?_
  rintro e w19 ⟨rfl, hF19, hb19⟩
  have E19 := hid (E18.out.below hb19)
  have R19 := hid (R18.out.below hb19 R18.out.lt)
  have P19 : Hid (Below BS W6 w19) := P18.out.trans (hb19.mono Z18.out)
  have Z19 : Hid (BS ≤ w19.heap.size) := Nat.le_trans Z18.out hb19.size
  have K19 := KI' w19 _ (WB.out _ P19.out) (Exs.of_row hF19)
  clear hF19 hb19 E18 R18 P18 Z18
  go_wp2_with fail
  refine K19.out.mono ?_
  rintro e w20 ⟨⟨v20, O20, rfl, h20a, h20b, h20c, _⟩, hb20⟩
  obtain ⟨a2, c2, hv20, hQ20⟩ := outs_own h20b h20c h20a
  rw [← HN.out] at hv20 hQ20
  subst hv20
  have E20 := hid (E19.out.below hb20)
  have R20 := hid (R19.out.below hb20 R19.out.lt)
  have P20 : Hid (Below BS W6 w20) := P19.out.trans (hb20.mono Z19.out)
  have Z20 : Hid (BS ≤ w20.heap.size) := Nat.le_trans Z19.out hb20.size
  obtain ⟨W21, hW21⟩ : ∃ W, W = w20.alloc (.cells #[.string d1, .int .i64 s1, .slice a2 N c2] 33) := ⟨_, rfl⟩
  have b21 : Below w20.heap.size w20 W21 := by rw [hW21]; exact (Below.refl _ _).alloc (Nat.le_refl _) _
  have S21 : Hid (RowAt W21 w20.heap.size 33 #[.string d1, .int .i64 s1, .slice a2 N c2]) := by rw [hW21]; exact RowAt.new _ _ _
  have Q21 := hid (hQ20.below b21)
  have E21 := hid (E20.out.below b21)
  have R21 := hid (R20.out.below b21 R20.out.lt)
  have P21 : Hid (Below BS W6 W21) := P20.out.trans (b21.mono Z20.out)
  have Z21 : Hid (BS ≤ W21.heap.size) := Nat.le_trans Z20.out b21.size
  clear h20a h20b h20c hb20 hQ20 b21 K19 E19 R19 P19 Z19 E20 R20 P20 Z20
  go_upto_region 28 with ((refine wpList_store_row rfl 33 (.tmp 12) (.tmp 69) rfl w20.heap.size #[.string d1, .int .i64 s1, .slice a2 N c2] rfl rfl _ _ (RowAt.new w20 _ _) (by kernel_rfl) rfl (by simp [Value.oneCell']) ?_); rw [World.setRow_alloc_new])
  rw [← hW21]
  clear hW21
  obtain ⟨Y2, hY2⟩ : ∃ y, y = w20.heap.size := ⟨_, rfl⟩
  rw [← hY2] at S21 ⊢
  clear hY2
  obtain ⟨x0, x1, x2⟩ := RB.out _ P21.out
  have y0 : W21.cell? ⟨Y2, 0, none⟩ = some (.string d1) := S21.out.cell 0
  have y1 : W21.cell? ⟨Y2, 1, none⟩ = some (.int .i64 s1) := S21.out.cell 1
  have y2 : W21.cell? ⟨Y2, 2, none⟩ = some (.slice a2 N c2) := S21.out.cell 2
  have K21 := KQ W21 _ _ _ _ Q21.out (QB.out _ P21.out)
  go_wp2_with fail
  refine K21.out.mono ?_
  rintro e w22 ⟨rfl, hb22⟩
  have E22 := hid (E21.out.below hb22)
  have R22 := hid (R21.out.below hb22 R21.out.lt)
  have P22 : Hid (Below BS W6 w22) := P21.out.trans (hb22.mono Z21.out)
  have Z22 : Hid (BS ≤ w22.heap.size) := Nat.le_trans Z21.out hb22.size
  clear hb22 K21 E21 R21 P21 Z21 S21 Q21 x0 x1 x2 y0 y1 y2
  obtain ⟨y0, y1, y2⟩ := YC.out _ R22.out
  go_wp2_with fail
  refine (KH.out w22 E22.out).mono ?_
  rintro e w23 ⟨rfl, hb23⟩
  have BF : Hid (Below w.heap.size w w23) := WB.out _ (P22.out.trans (hb23.mono Z22.out))
  clear hb23 y0 y1 y2
  go_wp2
  go_ret
  exact ⟨rfl, BF.out⟩
end Go.Proofs.YtngkiokibldfjaaGreatDoor
namespace Go.Proofs.YtngkiokibldfjaaGreatDoor
open Go.RowKit
set_option linter.unusedVariables false
/-! FnExactRunExtent, from both RunExtent. -/
set_option maxRecDepth 20000 in
set_option maxHeartbeats 2000000 in
theorem rx_core (ea eb : Addr) (d : ByteArray) (s : Int) (a : Option Addr) (n cap : Nat) (o : Nat → Op) (hd9 : d.size ≤ 9223372036854775807) (hn9 : n ≤ 9223372036854775807) (hs9 : ∀ k, k < n → (o k).ky.size ≤ 9223372036854775807 ∧ (o k).dt.size ≤ 9223372036854775807) (w : World) (hO : Exs w a n cap o) (hE : Errs w ea eb) (hT : TB w) :
    Calls Tryz.prog 5 #[.agg #[.string d, .int .i64 s], .slice a n cap] w fun e w' => e = .returned (.bool true) ∧ Below w.heap.size w w' := by
  obtain ⟨W0, hW0⟩ : ∃ W, W = w.alloc (.cells #[.string d, .int .i64 s] 46) := ⟨_, rfl⟩
  have b0 : Below w.heap.size w W0 := by rw [hW0]; exact (Below.refl _ _).alloc (Nat.le_refl _) _
  have A0 : Hid (RowAt W0 w.heap.size 46 #[.string d, .int .i64 s]) := by rw [hW0]; exact RowAt.new _ _ _
  have B0 := hid b0
  have x0 : W0.cell? ⟨w.heap.size, 0, none⟩ = some (.string d) := A0.out.cell 0
  have x1 : W0.cell? ⟨w.heap.size, 1, none⟩ = some (.int .i64 s) := A0.out.cell 1
  have KE := hid (szExt d s 1048576 (by omega) (by omega) hd9 W0)
  by_cases hd1 : d.size ≤ 1048576
  case neg =>
    rw [if_neg (by omega)] at KE
    have d0 : (-1 : Int) < 0 := by omega
    clear hO hE hT hs9 hn9 hd1 hd9 b0
    go_enter Tryz.func5, Tryz.ntmps5
    go_upto_region 2 with fail
    rw [← hW0]
    clear hW0
    go_wp2_with fail
    refine KE.out.mono ?_
    rintro e w1 ⟨rfl, hb1⟩
    have B1 : Hid (Below w.heap.size w w1) := B0.out.trans (hb1.mono B0.out.size)
    clear hb1
    go_wp2
    go_ret
    exact ⟨rfl, B1.out⟩
  by_cases hg : n + szO o n ≤ 1048576 - d.size
  case neg =>
    rw [if_pos (by omega)] at KE
    obtain ⟨l1, hl1⟩ : ∃ l : Nat, l = 1048576 - d.size := ⟨_, rfl⟩
    rw [show (1048576 : Int) - (d.size : Int) = (l1 : Int) by omega] at KE
    have hl9 : l1 ≤ 1048576 := by omega
    have HO := hid hO
    have KZ := fun wx (hb : Below w.heap.size w wx) => hid (szOps a n cap o l1 hl9 hn9 hs9 wx (HO.out.below hb))
    rw [← hl1] at hg
    rw [if_neg hg] at KZ
    have z1 : ¬ (l1 : Int) < 0 := by omega
    have d0 : (-1 : Int) < 0 := by omega
    clear hO hE hT hs9 hn9 hd1 hd9 b0 hg hl1 hl9
    go_enter Tryz.func5, Tryz.ntmps5
    go_upto_region 2 with fail
    rw [← hW0]
    clear hW0
    go_wp2_with fail
    refine KE.out.mono ?_
    rintro e w1 ⟨rfl, hb1⟩
    have B1 : Hid (Below w.heap.size w w1) := B0.out.trans (hb1.mono B0.out.size)
    clear hb1 x0 x1
    go_wp2_with fail
    refine (KZ w1 B1.out).out.mono ?_
    rintro e w2 ⟨rfl, hb2⟩
    have B2 : Hid (Below w.heap.size w w2) := B1.out.trans (hb2.mono B1.out.size)
    clear hb2 KZ
    go_wp2
    go_ret
    exact ⟨rfl, B2.out⟩
  clear hW0 b0 A0 B0 x0 x1 KE
  have hz : ∀ k, k < n → (o k).ky.size ≤ 1048576 ∧ (o k).dt.size ≤ 1048576 := fun k hk => by
    have := szO_at o hk
    omega
  by_cases hb : rxBad n d s
  · refine rx_walk d s a n cap o hn9 hs9 hd1 hg ⟨#[]⟩ 0 [] (by simp) (fun x hx => by cases hx) w hO (fun W b h => ?_) (fun W b hw h => ?_)
    · refine (sRunX_no d s b n n hb W).mono ?_
      rintro e w' ⟨rfl, hB⟩
      exact ⟨⟨.slice none 0 0, [], rfl, rfl, ⟨rfl, .inl ⟨rfl, rfl⟩⟩, fun p hp => by cases hp⟩, hB⟩
    · refine (iRunX_no d s b n n hb W).mono ?_
      rintro e w' ⟨rfl, hB⟩
      exact ⟨⟨.slice none 0 0, [], rfl, rfl, ⟨rfl, .inl ⟨rfl, rfl⟩⟩, fun p hp => (by cases hp), List.Pairwise.nil⟩, hB⟩
  · obtain ⟨hn2, hx, hsn⟩ := rx_ok hb
    obtain ⟨s0, hs0⟩ : ∃ s0, s0 = s.toNat := ⟨_, rfl⟩
    rw [← hs0] at hx hsn
    subst hsn
    refine rx_walk d (s0 : Int) a n cap o hn9 hs9 hd1 hg (xRun d s0 o n).1.1 ((xRun d s0 o n).1.2 : Nat) (xRun d s0 o n).2 (by rw [xRun_len]; exact hn2) (xRun_ks d s0 o n) w hO (fun W b h => ?_) (fun W b hw h => ?_)
    · refine (sRunX d s0 hx b n n o hn2 hz W h).mono ?_
      rintro e w' ⟨⟨v, O, rfl, h1, h2, h3⟩, hB⟩
      exact ⟨⟨v, O, rfl, h1, h2, h3⟩, hB⟩
    · refine (iRunX ea eb d s0 hx b n n o hn2 hz W (hE.below hw) (hT.below hw) h).mono ?_
      rintro e w' ⟨⟨v, O, rfl, h1, h2, h3, h4⟩, hB⟩
      exact ⟨⟨v, O, rfl, h1, h2, h3, h4⟩, hB⟩
end Go.Proofs.YtngkiokibldfjaaGreatDoor
