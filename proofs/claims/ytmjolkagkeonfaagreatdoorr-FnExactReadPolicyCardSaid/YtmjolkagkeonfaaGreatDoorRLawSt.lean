import Derived.Test.YtmjolkagkeonfaaGreatDoorRStrK
import Derived.Test.YtmjolkagkeonfaaGreatDoorRLawCn2
namespace Go.Proofs.YtmjolkagkeonfaaGreatDoorR
open Go.RowKit
/-! Statements: what the laws do with one. -/
/-- a slice of texts, of conditions -/
structure SS where
  ad : Option Addr
  n : Nat
  cap : Nat
  ts : Nat → ByteArray
structure CS where
  ad : Option Addr
  n : Nat
  cap : Nat
  o : Nat → Cn
structure St where
  ef : Int
  wo : SS
  wa : SS
  wi : SS
  cs : CS
def SS.v (s : SS) : Value := .slice s.ad s.n s.cap
def CS.v (s : CS) : Value := .slice s.ad s.n s.cap
def St.row (s : St) : Array Value := #[.int .i64 s.ef, .slice s.wo.ad s.wo.n s.wo.cap, .slice s.wa.ad s.wa.n s.wa.cap, .slice s.wi.ad s.wi.n s.wi.cap, .slice s.cs.ad s.cs.n s.cs.cap]
/-- what a statement's slices read as -/
structure StIn (w : World) (s : St) : Prop where
  wo : Strs w s.wo.ad s.wo.n s.wo.cap s.wo.ts
  wa : Strs w s.wa.ad s.wa.n s.wa.cap s.wa.ts
  wi : Strs w s.wi.ad s.wi.n s.wi.cap s.wi.ts
  cs : Cns w s.cs.ad s.cs.n s.cs.cap s.cs.o
theorem StIn.below {w w' : World} {s : St} (h : StIn w s) (hb : Below w.heap.size w w') : StIn w' s := ⟨h.wo.below hb, h.wa.below hb, h.wi.below hb, h.cs.below hb⟩
/-- sizes: as a row can hand them in; as the laws let them by -/
def SSB (s : SS) (B : Nat) : Prop := s.n ≤ B ∧ ∀ i, i < s.n → (s.ts i).size ≤ B
def CSB (s : CS) (B : Nat) : Prop := s.n ≤ B ∧ ∀ i, i < s.n → (s.o i).tx.size ≤ B
structure StB (s : St) (B : Nat) : Prop where
  wo : SSB s.wo B
  wa : SSB s.wa B
  wi : SSB s.wi B
  cs : CSB s.cs B
theorem szCn_at (o : Nat → Cn) {i n : Nat} (h : i < n) : (o i).tx.size ≤ szCn o n := by
  have h1 := szCn_mono o (show i + 1 ≤ n by omega)
  have h2 : szCn o (i + 1) = szCn o i + (o i).tx.size := rfl
  omega
/-- two statements that read alike -/
structure StEq (s s' : St) : Prop where
  ef : s.ef = s'.ef
  n1 : s.wo.n = s'.wo.n
  t1 : s.wo.ts = s'.wo.ts
  n2 : s.wa.n = s'.wa.n
  t2 : s.wa.ts = s'.wa.ts
  n3 : s.wi.n = s'.wi.n
  t3 : s.wi.ts = s'.wi.ts
  n4 : s.cs.n = s'.cs.n
  o4 : s.cs.o = s'.cs.o
theorem eqStB (s s' : SS) (hn : s.n = s'.n) (ht : s.ts = s'.ts) (hl : s.n ≤ 1048576) (w : World) (h : Strs w s.ad s.n s.cap s.ts) (h' : Strs w s'.ad s'.n s'.cap s'.ts) :
    Calls Tryz.prog 75 #[.slice s.ad s.n s.cap, .slice s'.ad s'.n s'.cap] w fun e w' => e = .returned (.bool true) ∧ Below w.heap.size w w' := by
  rw [← hn, ← ht] at h'
  rw [← hn]
  refine (eqStr s.ad s.n s.cap s'.ad s'.cap s.ts s.ts hl (fun _ _ => rfl) w h h').mono ?_
  rintro e w' ⟨rfl, k, rfl⟩
  exact ⟨rfl, rfl, rfl, rfl, Nat.le_refl _, fun _ _ => rfl⟩
theorem eqCnB (s s' : CS) (hn : s.n = s'.n) (ho : s.o = s'.o) (hl : s.n ≤ 1048576) (w : World) (h : Cns w s.ad s.n s.cap s.o) (h' : Cns w s'.ad s'.n s'.cap s'.o) :
    Calls Tryz.prog 76 #[.slice s.ad s.n s.cap, .slice s'.ad s'.n s'.cap] w fun e w' => e = .returned (.bool true) ∧ Below w.heap.size w w' := by
  rw [← hn, ← ho] at h'
  rw [← hn]
  exact eqCns s.ad s.n s.cap s'.ad s'.cap s.o hl w h h'
set_option maxRecDepth 20000 in
set_option maxHeartbeats 4000000 in
theorem eqSt (s s' : St) (he : StEq s s') (hs : StB s 1048576) (w : World) (h : StIn w s) (h' : StIn w s') :
    Calls Tryz.prog 56 #[.agg #[.int .i64 s.ef, .slice s.wo.ad s.wo.n s.wo.cap, .slice s.wa.ad s.wa.n s.wa.cap, .slice s.wi.ad s.wi.n s.wi.cap, .slice s.cs.ad s.cs.n s.cs.cap], .agg #[.int .i64 s'.ef, .slice s'.wo.ad s'.wo.n s'.wo.cap, .slice s'.wa.ad s'.wa.n s'.wa.cap, .slice s'.wi.ad s'.wi.n s'.wi.cap, .slice s'.cs.ad s'.cs.n s'.cs.cap]] w fun e w' => e = .returned (.bool true) ∧ Below w.heap.size w w' := by
  obtain ⟨f1, ⟨a1, n1, c1, t1⟩, ⟨a2, n2, c2, t2⟩, ⟨a3, n3, c3, t3⟩, ⟨a4, n4, c4, o4⟩⟩ := s
  obtain ⟨g1, ⟨b1, m1, e1, u1⟩, ⟨b2, m2, e2, u2⟩, ⟨b3, m3, e3, u3⟩, ⟨b4, m4, e4, p4⟩⟩ := s'
  obtain ⟨rfl, q1, q2, q3, q4, q5, q6, q7, q8⟩ := he
  dsimp only at q1 q2 q3 q4 q5 q6 q7 q8 ⊢
  subst q1 q2 q3 q4 q5 q6 q7 q8
  obtain ⟨W0, hW0⟩ : ∃ W, W = (w.alloc (.cells #[.int .i64 f1, .slice a1 n1 c1, .slice a2 n2 c2, .slice a3 n3 c3, .slice a4 n4 c4] 45)).alloc (.cells #[.int .i64 f1, .slice b1 n1 e1, .slice b2 n2 e2, .slice b3 n3 e3, .slice b4 n4 e4] 45) := ⟨_, rfl⟩
  have A0 : Hid (RowAt W0 w.heap.size 45 #[.int .i64 f1, .slice a1 n1 c1, .slice a2 n2 c2, .slice a3 n3 c3, .slice a4 n4 c4]) := by rw [hW0]; exact (RowAt.new _ _ _).alloc _
  have A1 : Hid (RowAt W0 (w.heap.size + 1) 45 #[.int .i64 f1, .slice b1 n1 e1, .slice b2 n2 e2, .slice b3 n3 e3, .slice b4 n4 e4]) := by rw [hW0]; exact RowAt.next _ _ _ (by rw [size_al])
  have B0 : Hid (Below w.heap.size w W0) := by rw [hW0]; exact balCn (balCn (Below.refl _ _) _) _
  have z1 : Hid (w.heap.size + 1 < W0.heap.size) := A1.out.lt
  have z0 : Hid (w.heap.size < W0.heap.size) := A0.out.lt
  have K1 := fun wx (hb : Below W0.heap.size W0 wx) => hid (eqStB ⟨a1, n1, c1, t1⟩ ⟨b1, n1, e1, t1⟩ rfl rfl hs.wo.1 wx ((h.wo.below B0.out).below hb) ((h'.wo.below B0.out).below hb))
  have K2 := fun wx (hb : Below W0.heap.size W0 wx) => hid (eqStB ⟨a2, n2, c2, t2⟩ ⟨b2, n2, e2, t2⟩ rfl rfl hs.wa.1 wx ((h.wa.below B0.out).below hb) ((h'.wa.below B0.out).below hb))
  have K3 := fun wx (hb : Below W0.heap.size W0 wx) => hid (eqStB ⟨a3, n3, c3, t3⟩ ⟨b3, n3, e3, t3⟩ rfl rfl hs.wi.1 wx ((h.wi.below B0.out).below hb) ((h'.wi.below B0.out).below hb))
  have K4 := fun wx (hb : Below W0.heap.size W0 wx) => hid (eqCnB ⟨a4, n4, c4, o4⟩ ⟨b4, n4, e4, o4⟩ rfl rfl hs.cs.1 wx ((h.cs.below B0.out).below hb) ((h'.cs.below B0.out).below hb))
  have d0 : (f1 != f1) = false := by simp
  have x1 := A0.out.cell 1
  have y1 := A1.out.cell 1
  clear h h' hs
  go_enter Tryz.func56, Tryz.ntmps56
  go_wp2_with fail
  rw [← hW0]
  clear hW0 x1 y1
  refine (K1 _ (Below.refl _ _)).out.mono ?_
  rintro e w1 ⟨rfl, hb1⟩
  have BB := hid hb1
  clear hb1
  have x2 := (BB.out.cell (p := ⟨w.heap.size, 2, none⟩) z0.out).trans (A0.out.cell 2)
  have y2 := (BB.out.cell (p := ⟨w.heap.size + 1, 2, none⟩) z1.out).trans (A1.out.cell 2)
  go_wp2_with fail
  refine (K2 _ BB.out).out.mono ?_
  rintro e w2 ⟨rfl, hb2⟩
  have BN := hid (BB.out.trans (hb2.mono BB.out.size))
  clear hb2 BB x2 y2
  have BB := BN
  clear BN
  have x3 := (BB.out.cell (p := ⟨w.heap.size, 3, none⟩) z0.out).trans (A0.out.cell 3)
  have y3 := (BB.out.cell (p := ⟨w.heap.size + 1, 3, none⟩) z1.out).trans (A1.out.cell 3)
  go_wp2_with fail
  refine (K3 _ BB.out).out.mono ?_
  rintro e w3 ⟨rfl, hb3⟩
  have BN := hid (BB.out.trans (hb3.mono BB.out.size))
  clear hb3 BB x3 y3
  have BB := BN
  clear BN
  have x4 := (BB.out.cell (p := ⟨w.heap.size, 4, none⟩) z0.out).trans (A0.out.cell 4)
  have y4 := (BB.out.cell (p := ⟨w.heap.size + 1, 4, none⟩) z1.out).trans (A1.out.cell 4)
  go_wp2_with fail
  refine (K4 _ BB.out).out.mono ?_
  rintro e w4 ⟨rfl, hb4⟩
  have BN := hid (BB.out.trans (hb4.mono BB.out.size))
  clear hb4 BB x4 y4
  have BB := BN
  clear BN
  go_wp2
  go_ret
  exact ⟨rfl, B0.out.trans (BB.out.mono B0.out.size)⟩
end Go.Proofs.YtmjolkagkeonfaaGreatDoorR
