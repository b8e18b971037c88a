import Derived.Test.YtgjkhjpkdkcnfabDoorLawHp2
namespace Go.Proofs.YtgjkhjpkdkcnfabDoor
open Go.RowKit
/-! Requests: what the laws do with one. -/
/-- a slice of pairs; a request -/
structure PS where
  ad : Option Addr
  n : Nat
  cap : Nat
  o : Nat → Hp
structure Rq where
  mt : ByteArray
  pt : ByteArray
  qs : PS
  hs : PS
  bd : ByteArray
def Rq.v (r : Rq) : Value := .agg #[.string r.mt, .string r.pt, .slice r.qs.ad r.qs.n r.qs.cap, .slice r.hs.ad r.hs.n r.hs.cap, .string r.bd]
/-- what a request's slices read as -/
structure RqIn (w : World) (r : Rq) : Prop where
  qs : Hps w r.qs.ad r.qs.n r.qs.cap r.qs.o
  hs : Hps w r.hs.ad r.hs.n r.hs.cap r.hs.o
theorem RqIn.below {w w' : World} {r : Rq} (h : RqIn w r) (hb : Below w.heap.size w w') : RqIn w' r := ⟨h.qs.below hb, h.hs.below hb⟩
def PSB (s : PS) (B : Nat) : Prop := s.n ≤ B ∧ ∀ i, i < s.n → (s.o i).nm.size ≤ B ∧ (s.o i).vl.size ≤ B
structure RqB (r : Rq) (B : Nat) : Prop where
  mt : r.mt.size ≤ B
  pt : r.pt.size ≤ B
  qs : PSB r.qs B
  hs : PSB r.hs B
  bd : r.bd.size ≤ B
theorem szHp_at (o : Nat → Hp) {i n : Nat} (h : i < n) : (o i).nm.size + (o i).vl.size ≤ szHp o n := by
  have h1 := szHp_mono o (show i + 1 ≤ n by omega)
  have h2 : szHp o (i + 1) = szHp o i + (o i).nm.size + (o i).vl.size := rfl
  omega
theorem szPB (s : PS) (L : Int) (h0 : 0 ≤ L) (h1 : L ≤ 1048576) (hb : PSB s 9223372036854775807) (w : World) (h : Hps w s.ad s.n s.cap s.o) :
    Calls Tryd.prog 9 #[.slice s.ad s.n s.cap, .int .i64 L] w fun e w' => (∃ z : Int, e = .returned (.int .i64 z) ∧ z ≤ 1048576 ∧ (z < 0 ∨ PSB s 1048576)) ∧ Below w.heap.size w w' := by
  obtain ⟨l, rfl⟩ := Int.eq_ofNat_of_zero_le h0
  refine (szHps s.ad s.n s.cap s.o l (by omega) hb.1 hb.2 w h).mono ?_
  rintro e w' ⟨rfl, hb2⟩
  refine ⟨⟨_, rfl, ?_, ?_⟩, hb2⟩
  · split <;> omega
  · by_cases hf : s.n + szHp s.o s.n ≤ l
    · exact .inr ⟨by omega, fun i hi => by have := szHp_at s.o hi; omega⟩
    · rw [if_neg hf]; exact .inl (by decide)
set_option maxRecDepth 20000 in
set_option maxHeartbeats 4000000 in
theorem szRq (r : Rq) (L : Int) (h0 : 0 ≤ L) (h1 : L ≤ 1048576) (hs : RqB r 9223372036854775807) (w : World) (h : RqIn w r) :
    Calls Tryd.prog 4 #[.agg #[.string r.mt, .string r.pt, .slice r.qs.ad r.qs.n r.qs.cap, .slice r.hs.ad r.hs.n r.hs.cap, .string r.bd], .int .i64 L] w fun e w' => (∃ z : Int, e = .returned (.int .i64 z) ∧ z ≤ 1048576 ∧ (z < 0 ∨ RqB r 1048576)) ∧ Below w.heap.size w w' := by
  obtain ⟨mt, pt, ⟨a1, n1, c1, o1⟩, ⟨a2, n2, c2, o2⟩, bd⟩ := r
  dsimp only
  obtain ⟨W0, hW0⟩ : ∃ W, W = w.alloc (.cells #[.string mt, .string pt, .slice a1 n1 c1, .slice a2 n2 c2, .string bd] 24) := ⟨_, rfl⟩
  have A0 : Hid (RowAt W0 w.heap.size 24 #[.string mt, .string pt, .slice a1 n1 c1, .slice a2 n2 c2, .string bd]) := by rw [hW0]; exact RowAt.new _ _ _
  have B0 : Hid (Below w.heap.size w W0) := by rw [hW0]; exact balHp (Below.refl _ _) _
  have S1 := fun L h0 h1 => hid (szPB ⟨a1, n1, c1, o1⟩ L h0 h1 hs.qs W0 (h.qs.below B0.out))
  have S2 := fun L h0 h1 wx (hb : Below W0.heap.size W0 wx) => hid (szPB ⟨a2, n2, c2, o2⟩ L h0 h1 hs.hs wx ((h.hs.below B0.out).below hb))
  have hm := hs.mt
  have hp := hs.pt
  have hb := hs.bd
  dsimp only at hm hp hb
  have z0 : Hid (w.heap.size < W0.heap.size) := A0.out.lt
  clear h hs
  by_cases m1 : L - (mt.size : Int) < 0
  · go_enter Tryd.func4, Tryd.ntmps4
    go_wp2_with fail
    rw [← hW0]
    go_ret
    exact ⟨⟨-1, rfl, by decide, .inl (by decide)⟩, B0.out⟩
  by_cases m2 : L - (mt.size : Int) - (pt.size : Int) < 0
  · go_enter Tryd.func4, Tryd.ntmps4
    go_wp2_with fail
    rw [← hW0]
    go_ret
    exact ⟨⟨-1, rfl, by decide, .inl (by decide)⟩, B0.out⟩
  go_enter Tryd.func4, Tryd.ntmps4
  go_wp2_with fail
  rw [← hW0]
  clear hW0
  refine (S1 _ (by omega) (by omega)).out.mono ?_
  rintro e w2 ⟨⟨z1, rfl, hz1, hq1⟩, hb1⟩
  have B1 := hid hb1
  clear hb1
  by_cases hn1 : z1 < 0
  · clear hq1
    go_wp2
    go_ret
    exact ⟨⟨-1, rfl, by decide, .inl (by decide)⟩, B0.out.trans (B1.out.mono B0.out.size)⟩
  have Q1 := hid (hq1.resolve_left hn1)
  clear hq1
  have x3 := (B1.out.cell (p := ⟨w.heap.size, 3, none⟩) z0.out).trans (A0.out.cell 3)
  go_wp2_with fail
  refine (S2 z1 (by omega) hz1 _ B1.out).out.mono ?_
  rintro e w3 ⟨⟨z2, rfl, hz2, hq2⟩, hb2⟩
  have B2 := hid (B1.out.trans (hb2.mono B1.out.size))
  clear hb2 x3
  by_cases hn2 : z2 < 0
  · clear hq2
    go_wp2
    go_ret
    exact ⟨⟨-1, rfl, by decide, .inl (by decide)⟩, B0.out.trans (B2.out.mono B0.out.size)⟩
  have Q2 := hid (hq2.resolve_left hn2)
  clear hq2
  have x4 := (B2.out.cell (p := ⟨w.heap.size, 4, none⟩) z0.out).trans (A0.out.cell 4)
  by_cases hn3 : z2 - (bd.size : Int) < 0
  · go_wp2
    go_ret
    exact ⟨⟨-1, rfl, by decide, .inl (by decide)⟩, B0.out.trans (B2.out.mono B0.out.size)⟩
  go_wp2
  go_ret
  exact ⟨⟨z2 - (bd.size : Int), rfl, by omega, .inr ⟨by dsimp only; omega, by dsimp only; omega, Q1.out, Q2.out, by dsimp only; omega⟩⟩, B0.out.trans (B2.out.mono B0.out.size)⟩
/-- two requests that read alike -/
structure RqEq (r r' : Rq) : Prop where
  mt : r.mt = r'.mt
  pt : r.pt = r'.pt
  n1 : r.qs.n = r'.qs.n
  o1 : r.qs.o = r'.qs.o
  n2 : r.hs.n = r'.hs.n
  o2 : r.hs.o = r'.hs.o
  bd : r.bd = r'.bd
theorem eqPB (s s' : PS) (hn : s.n = s'.n) (ho : s.o = s'.o) (hl : s.n ≤ 1048576) (w : World) (h : Hps w s.ad s.n s.cap s.o) (h' : Hps w s'.ad s'.n s'.cap s'.o) :
    Calls Tryd.prog 19 #[.slice s.ad s.n s.cap, .slice s'.ad s'.n s'.cap] w fun e w' => e = .returned (.bool true) ∧ Below w.heap.size w w' := by
  rw [← hn, ← ho] at h'
  rw [← hn]
  exact eqHps s.ad s.n s.cap s'.ad s'.cap s.o hl w h h'
set_option maxRecDepth 20000 in
set_option maxHeartbeats 4000000 in
theorem eqRq (r r' : Rq) (he : RqEq r r') (hs : RqB r 1048576) (w : World) (h : RqIn w r) (h' : RqIn w r') :
    Calls Tryd.prog 8 #[.agg #[.string r.mt, .string r.pt, .slice r.qs.ad r.qs.n r.qs.cap, .slice r.hs.ad r.hs.n r.hs.cap, .string r.bd], .agg #[.string r'.mt, .string r'.pt, .slice r'.qs.ad r'.qs.n r'.qs.cap, .slice r'.hs.ad r'.hs.n r'.hs.cap, .string r'.bd]] w fun e w' => e = .returned (.bool true) ∧ Below w.heap.size w w' := by
  obtain ⟨mt, pt, ⟨a1, n1, c1, o1⟩, ⟨a2, n2, c2, o2⟩, bd⟩ := r
  obtain ⟨mt', pt', ⟨b1, m1, e1, p1⟩, ⟨b2, m2, e2, p2⟩, bd'⟩ := r'
  obtain ⟨q1, q2, q3, q4, q5, q6, q7⟩ := he
  dsimp only at q1 q2 q3 q4 q5 q6 q7 ⊢
  subst q1 q2 q3 q4 q5 q6 q7
  obtain ⟨W0, hW0⟩ : ∃ W, W = (w.alloc (.cells #[.string mt, .string pt, .slice a1 n1 c1, .slice a2 n2 c2, .string bd] 29)).alloc (.cells #[.string mt, .string pt, .slice b1 n1 e1, .slice b2 n2 e2, .string bd] 29) := ⟨_, rfl⟩
  have A0 : Hid (RowAt W0 w.heap.size 29 #[.string mt, .string pt, .slice a1 n1 c1, .slice a2 n2 c2, .string bd]) := by rw [hW0]; exact (RowAt.new _ _ _).alloc _
  have A1 : Hid (RowAt W0 (w.heap.size + 1) 29 #[.string mt, .string pt, .slice b1 n1 e1, .slice b2 n2 e2, .string bd]) := by rw [hW0]; exact RowAt.next _ _ _ (by rw [size_al])
  have B0 : Hid (Below w.heap.size w W0) := by rw [hW0]; exact balHp (balHp (Below.refl _ _) _) _
  have z1 : Hid (w.heap.size + 1 < W0.heap.size) := A1.out.lt
  have z0 : Hid (w.heap.size < W0.heap.size) := A0.out.lt
  have K1 := fun wx (hb : Below W0.heap.size W0 wx) => hid (eqPB ⟨a1, n1, c1, o1⟩ ⟨b1, n1, e1, o1⟩ rfl rfl hs.qs.1 wx ((h.qs.below B0.out).below hb) ((h'.qs.below B0.out).below hb))
  have K2 := fun wx (hb : Below W0.heap.size W0 wx) => hid (eqPB ⟨a2, n2, c2, o2⟩ ⟨b2, n2, e2, o2⟩ rfl rfl hs.hs.1 wx ((h.hs.below B0.out).below hb) ((h'.hs.below B0.out).below hb))
  have x0 := A0.out.cell 0
  have y0 := A1.out.cell 0
  have x1 := A0.out.cell 1
  have y1 := A1.out.cell 1
  have x2 := A0.out.cell 2
  have y2 := A1.out.cell 2
  clear h h' hs
  go_enter Tryd.func8, Tryd.ntmps8
  go_wp2_with fail
  rw [← hW0]
  clear hW0 x0 y0 x1 y1 x2 y2
  refine (K1 _ (Below.refl _ _)).out.mono ?_
  rintro e w1 ⟨rfl, hb1⟩
  have BB := hid hb1
  clear hb1
  have x3 := (BB.out.cell (p := ⟨w.heap.size, 3, none⟩) z0.out).trans (A0.out.cell 3)
  have y3 := (BB.out.cell (p := ⟨w.heap.size + 1, 3, none⟩) z1.out).trans (A1.out.cell 3)
  go_wp2_with fail
  refine (K2 _ BB.out).out.mono ?_
  rintro e w2 ⟨rfl, hb2⟩
  have BN := hid (BB.out.trans (hb2.mono BB.out.size))
  clear hb2 BB x3 y3
  have x4 := (BN.out.cell (p := ⟨w.heap.size, 4, none⟩) z0.out).trans (A0.out.cell 4)
  have y4 := (BN.out.cell (p := ⟨w.heap.size + 1, 4, none⟩) z1.out).trans (A1.out.cell 4)
  go_wp2
  go_ret
  exact ⟨rfl, B0.out.trans (BN.out.mono B0.out.size)⟩
end Go.Proofs.YtgjkhjpkdkcnfabDoor
