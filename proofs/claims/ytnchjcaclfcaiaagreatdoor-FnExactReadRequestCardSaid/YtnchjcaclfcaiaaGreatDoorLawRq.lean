import Derived.Test.YtnchjcaclfcaiaaGreatDoorLawHp2
namespace Go.Proofs.YtnchjcaclfcaiaaGreatDoor
open Go.RowKit
/-! Requests: what the laws do with one. -/
/-- a slice of pairs; a request -/
structure PS where
  ad : Option Addr
  n : Nat
  cap : Nat
  o : Nat → Hp
structure Rq where
  mt : ByteArray
  pt : ByteArray
  qs : PS
  hs : PS
  bd : ByteArray
def Rq.v (r : Rq) : Value := .agg #[.string r.mt, .string r.pt, .slice r.qs.ad r.qs.n r.qs.cap, .slice r.hs.ad r.hs.n r.hs.cap, .string r.bd]
/-- what a request's slices read as -/
structure RqIn (w : World) (r : Rq) : Prop where
  qs : Hps w r.qs.ad r.qs.n r.qs.cap r.qs.o
  hs : Hps w r.hs.ad r.hs.n r.hs.cap r.hs.o
theorem RqIn.below {w w' : World} {r : Rq} (h : RqIn w r) (hb : Below w.heap.size w w') : RqIn w' r := ⟨h.qs.below hb, h.hs.below hb⟩
def PSB (s : PS) (B : Nat) : Prop := s.n ≤ B ∧ ∀ i, i < s.n → (s.o i).nm.size ≤ B ∧ (s.o i).vl.size ≤ B
structure RqB (r : Rq) (B : Nat) : Prop where
  mt : r.mt.size ≤ B
  pt : r.pt.size ≤ B
  qs : PSB r.qs B
  hs : PSB r.hs B
  bd : r.bd.size ≤ B
theorem szHp_at (o : Nat → Hp) {i n : Nat} (h : i < n) : (o i).nm.size + (o i).vl.size ≤ szHp o n := by
  have h1 := szHp_mono o (show i + 1 ≤ n by omega)
  have h2 : szHp o (i + 1) = szHp o i + (o i).nm.size + (o i).vl.size := rfl
  omega
/-- two requests that read alike -/
structure RqEq (r r' : Rq) : Prop where
  mt : r.mt = r'.mt
  pt : r.pt = r'.pt
  n1 : r.qs.n = r'.qs.n
  o1 : r.qs.o = r'.qs.o
  n2 : r.hs.n = r'.hs.n
  o2 : r.hs.o = r'.hs.o
  bd : r.bd = r'.bd
theorem eqPB (s s' : PS) (hn : s.n = s'.n) (ho : s.o = s'.o) (hl : s.n ≤ 1048576) (w : World) (h : Hps w s.ad s.n s.cap s.o) (h' : Hps w s'.ad s'.n s'.cap s'.o) :
    Calls Tryz.prog 78 #[.slice s.ad s.n s.cap, .slice s'.ad s'.n s'.cap] w fun e w' => e = .returned (.bool true) ∧ Below w.heap.size w w' := by
  rw [← hn, ← ho] at h'
  rw [← hn]
  exact eqHps s.ad s.n s.cap s'.ad s'.cap s.o hl w h h'
set_option maxRecDepth 20000 in
set_option maxHeartbeats 4000000 in
theorem eqRq (r r' : Rq) (he : RqEq r r') (hs : RqB r 1048576) (w : World) (h : RqIn w r) (h' : RqIn w r') :
    Calls Tryz.prog 48 #[.agg #[.string r.mt, .string r.pt, .slice r.qs.ad r.qs.n r.qs.cap, .slice r.hs.ad r.hs.n r.hs.cap, .string r.bd], .agg #[.string r'.mt, .string r'.pt, .slice r'.qs.ad r'.qs.n r'.qs.cap, .slice r'.hs.ad r'.hs.n r'.hs.cap, .string r'.bd]] w fun e w' => e = .returned (.bool true) ∧ Below w.heap.size w w' := by
  obtain ⟨mt, pt, ⟨a1, n1, c1, o1⟩, ⟨a2, n2, c2, o2⟩, bd⟩ := r
  obtain ⟨mt', pt', ⟨b1, m1, e1, p1⟩, ⟨b2, m2, e2, p2⟩, bd'⟩ := r'
  obtain ⟨q1, q2, q3, q4, q5, q6, q7⟩ := he
  dsimp only at q1 q2 q3 q4 q5 q6 q7 ⊢
  subst q1 q2 q3 q4 q5 q6 q7
  obtain ⟨W0, hW0⟩ : ∃ W, W = (w.alloc (.cells #[.string mt, .string pt, .slice a1 n1 c1, .slice a2 n2 c2, .string bd] 25)).alloc (.cells #[.string mt, .string pt, .slice b1 n1 e1, .slice b2 n2 e2, .string bd] 25) := ⟨_, rfl⟩
  have A0 : Hid (RowAt W0 w.heap.size 25 #[.string mt, .string pt, .slice a1 n1 c1, .slice a2 n2 c2, .string bd]) := by rw [hW0]; exact (RowAt.new _ _ _).alloc _
  have A1 : Hid (RowAt W0 (w.heap.size + 1) 25 #[.string mt, .string pt, .slice b1 n1 e1, .slice b2 n2 e2, .string bd]) := by rw [hW0]; exact RowAt.next _ _ _ (by rw [size_al])
  have B0 : Hid (Below w.heap.size w W0) := by rw [hW0]; exact balHp (balHp (Below.refl _ _) _) _
  have z1 : Hid (w.heap.size + 1 < W0.heap.size) := A1.out.lt
  have z0 : Hid (w.heap.size < W0.heap.size) := A0.out.lt
  have K1 := fun wx (hb : Below W0.heap.size W0 wx) => hid (eqPB ⟨a1, n1, c1, o1⟩ ⟨b1, n1, e1, o1⟩ rfl rfl hs.qs.1 wx ((h.qs.below B0.out).below hb) ((h'.qs.below B0.out).below hb))
  have K2 := fun wx (hb : Below W0.heap.size W0 wx) => hid (eqPB ⟨a2, n2, c2, o2⟩ ⟨b2, n2, e2, o2⟩ rfl rfl hs.hs.1 wx ((h.hs.below B0.out).below hb) ((h'.hs.below B0.out).below hb))
  have x0 := A0.out.cell 0
  have y0 := A1.out.cell 0
  have x1 := A0.out.cell 1
  have y1 := A1.out.cell 1
  have x2 := A0.out.cell 2
  have y2 := A1.out.cell 2
  clear h h' hs
  go_enter Tryz.func48, Tryz.ntmps48
  go_wp2_with fail
  rw [← hW0]
  clear hW0 x0 y0 x1 y1 x2 y2
  refine (K1 _ (Below.refl _ _)).out.mono ?_
  rintro e w1 ⟨rfl, hb1⟩
  have BB := hid hb1
  clear hb1
  have x3 := (BB.out.cell (p := ⟨w.heap.size, 3, none⟩) z0.out).trans (A0.out.cell 3)
  have y3 := (BB.out.cell (p := ⟨w.heap.size + 1, 3, none⟩) z1.out).trans (A1.out.cell 3)
  go_wp2_with fail
  refine (K2 _ BB.out).out.mono ?_
  rintro e w2 ⟨rfl, hb2⟩
  have BN := hid (BB.out.trans (hb2.mono BB.out.size))
  clear hb2 BB x3 y3
  have x4 := (BN.out.cell (p := ⟨w.heap.size, 4, none⟩) z0.out).trans (A0.out.cell 4)
  have y4 := (BN.out.cell (p := ⟨w.heap.size + 1, 4, none⟩) z1.out).trans (A1.out.cell 4)
  go_wp2
  go_ret
  exact ⟨rfl, B0.out.trans (BN.out.mono B0.out.size)⟩
end Go.Proofs.YtnchjcaclfcaiaaGreatDoor
