import Derived.Test.YtjfmjcdopokkaaaDoorStrK
import Derived.Test.YtjfmjcdopokkaaaDoorLawCn2
namespace Go.Proofs.YtjfmjcdopokkaaaDoor
open Go.RowKit
/-! Statements: what the laws do with one. -/
set_option maxRecDepth 20000 in
set_option maxHeartbeats 1000000 in
theorem szStrB (a : Option Addr) (len cap : Nat) (ts : Nat → ByteArray) (L : Int) (h0 : 0 ≤ L) (h1 : L ≤ 1048576) (hl : len ≤ 9223372036854775807) (hz : ∀ i, i < len → (ts i).size ≤ 9223372036854775807) (w : World) (h : Strs w a len cap ts) :
    Calls Tryd.prog 60 #[.slice a len cap, .int .i64 L] w fun e w' => ∃ z : Int, e = .returned (.int .i64 z) ∧ w' = w ∧ z ≤ 1048576 ∧ (z < 0 ∨ (len ≤ 1048576 ∧ ∀ i, i < len → (ts i).size ≤ 1048576)) := by
  have HH := hid h
  have HZ := hid hz
  clear h hz
  by_cases hb : L < len
  · have d0 : L - (len : Int) < 0 := by omega
    go_enter Tryd.func60, Tryd.ntmps60
    go_wp2
    go_ret
    exact ⟨-1, rfl, rfl, by decide, .inl (by decide)⟩
  have d0 : ¬ L - (len : Int) < 0 := by omega
  go_enter Tryd.func60, Tryd.ntmps60
  go_wp2_with fail
  go_loopw [1, 5] (fun q r wr => ∃ (k : Nat) (z : Int), k ≤ len ∧ 0 ≤ z ∧ z ≤ 1048576 ∧ q = .int .i64 z ∧ r = .int .i64 (k : Int) ∧ (∀ i, i < k → (ts i).size ≤ 1048576) ∧ wr = w) (fun _ r _ => len - (intOf r).toNat)
  case atStart => exact ⟨0, L - len, Nat.zero_le _, by omega, by omega, rfl, rfl, fun i hi => absurd hi (by omega), rfl⟩
  case round =>
    obtain ⟨k, z, hk, hz0, hz1, rfl, rfl, hts, rfl⟩ := hrel
    have HT := hid hts
    clear hts
    by_cases hlt : k < len
    · have hlt' : (k : Int) < (len : Int) := by omega
      have k0 : (0 : Int) ≤ (k : Int) := by omega
      rcases HH.out.2 with q0 | ⟨b, off, rfl, hbl, hc⟩
      · omega
      have c0 := hc k hlt
      have hzk := HZ.out k hlt
      clear hc
      obtain ⟨t, ht⟩ : ∃ t, t = ts k := ⟨_, rfl⟩
      rw [← ht] at c0 hzk
      have HTT := hid ht
      clear ht
      by_cases hs : z < t.size
      · have d1 : z - ((t.size : Nat) : Int) < 0 := by omega
        go_wp2
        go_ret
        exact ⟨-1, rfl, rfl, by decide, .inl (by decide)⟩
      · have d1 : ¬ z - ((t.size : Nat) : Int) < 0 := by omega
        have N1 : Hid (∀ i, i < k + 1 → (ts i).size ≤ 1048576) := fun i hi => by
          by_cases e : i = k
          · rw [e, ← HTT.out]; omega
          · exact HT.out i (by omega)
        go_wp2
        go_roundw
        case rel => exact ⟨k + 1, z - t.size, hlt, by omega, by omega, rfl, by go_num, N1.out, trivial⟩
        case measure => simp [intOf]; omega
    · have hlt' : ¬ (k : Int) < (len : Int) := by omega
      obtain rfl : k = len := by omega
      go_wp2
      go_ret
      exact ⟨z, rfl, rfl, by omega, .inr ⟨by omega, HT.out⟩⟩
/-- a slice of texts, of conditions -/
structure SS where
  ad : Option Addr
  n : Nat
  cap : Nat
  ts : Nat → ByteArray
structure CS where
  ad : Option Addr
  n : Nat
  cap : Nat
  o : Nat → Cn
structure St where
  ef : Int
  wo : SS
  wa : SS
  wi : SS
  cs : CS
def SS.v (s : SS) : Value := .slice s.ad s.n s.cap
def CS.v (s : CS) : Value := .slice s.ad s.n s.cap
def St.row (s : St) : Array Value := #[.int .i64 s.ef, .slice s.wo.ad s.wo.n s.wo.cap, .slice s.wa.ad s.wa.n s.wa.cap, .slice s.wi.ad s.wi.n s.wi.cap, .slice s.cs.ad s.cs.n s.cs.cap]
/-- what a statement's slices read as -/
structure StIn (w : World) (s : St) : Prop where
  wo : Strs w s.wo.ad s.wo.n s.wo.cap s.wo.ts
  wa : Strs w s.wa.ad s.wa.n s.wa.cap s.wa.ts
  wi : Strs w s.wi.ad s.wi.n s.wi.cap s.wi.ts
  cs : Cns w s.cs.ad s.cs.n s.cs.cap s.cs.o
theorem StIn.below {w w' : World} {s : St} (h : StIn w s) (hb : Below w.heap.size w w') : StIn w' s := ⟨h.wo.below hb, h.wa.below hb, h.wi.below hb, h.cs.below hb⟩
/-- sizes: as a row can hand them in; as the laws let them by -/
def SSB (s : SS) (B : Nat) : Prop := s.n ≤ B ∧ ∀ i, i < s.n → (s.ts i).size ≤ B
def CSB (s : CS) (B : Nat) : Prop := s.n ≤ B ∧ ∀ i, i < s.n → (s.o i).tx.size ≤ B
structure StB (s : St) (B : Nat) : Prop where
  wo : SSB s.wo B
  wa : SSB s.wa B
  wi : SSB s.wi B
  cs : CSB s.cs B
theorem szCn_at (o : Nat → Cn) {i n : Nat} (h : i < n) : (o i).tx.size ≤ szCn o n := by
  have h1 := szCn_mono o (show i + 1 ≤ n by omega)
  have h2 : szCn o (i + 1) = szCn o i + (o i).tx.size := rfl
  omega
theorem szCB (s : CS) (L : Int) (h0 : 0 ≤ L) (h1 : L ≤ 1048576) (hb : CSB s 9223372036854775807) (w : World) (h : Cns w s.ad s.n s.cap s.o) :
    Calls Tryd.prog 61 #[.slice s.ad s.n s.cap, .int .i64 L] w fun e w' => (∃ z : Int, e = .returned (.int .i64 z) ∧ z ≤ 1048576 ∧ (z < 0 ∨ CSB s 1048576)) ∧ Below w.heap.size w w' := by
  obtain ⟨l, rfl⟩ := Int.eq_ofNat_of_zero_le h0
  refine (szCns s.ad s.n s.cap s.o l (by omega) hb.1 hb.2 w h).mono ?_
  rintro e w' ⟨rfl, hb2⟩
  refine ⟨⟨_, rfl, ?_, ?_⟩, hb2⟩
  · split <;> omega
  · by_cases hf : s.n + szCn s.o s.n ≤ l
    · exact .inr ⟨by omega, fun i hi => by have := szCn_at s.o hi; omega⟩
    · rw [if_neg hf]; exact .inl (by decide)
set_option maxRecDepth 20000 in
set_option maxHeartbeats 4000000 in
theorem szSt (s : St) (L : Int) (h0 : 0 ≤ L) (h1 : L ≤ 1048576) (hs : StB s 9223372036854775807) (w : World) (h : StIn w s) :
    Calls Tryd.prog 33 #[.agg #[.int .i64 s.ef, .slice s.wo.ad s.wo.n s.wo.cap, .slice s.wa.ad s.wa.n s.wa.cap, .slice s.wi.ad s.wi.n s.wi.cap, .slice s.cs.ad s.cs.n s.cs.cap], .int .i64 L] w fun e w' => (∃ z : Int, e = .returned (.int .i64 z) ∧ z ≤ 1048576 ∧ (z < 0 ∨ StB s 1048576)) ∧ Below w.heap.size w w' := by
  obtain ⟨ef, ⟨a1, n1, c1, t1⟩, ⟨a2, n2, c2, t2⟩, ⟨a3, n3, c3, t3⟩, ⟨a4, n4, c4, o4⟩⟩ := s
  dsimp only
  obtain ⟨W0, hW0⟩ : ∃ W, W = w.alloc (.cells #[.int .i64 ef, .slice a1 n1 c1, .slice a2 n2 c2, .slice a3 n3 c3, .slice a4 n4 c4] 64) := ⟨_, rfl⟩
  have A0 : RowAt W0 w.heap.size 64 #[.int .i64 ef, .slice a1 n1 c1, .slice a2 n2 c2, .slice a3 n3 c3, .slice a4 n4 c4] := by rw [hW0]; exact RowAt.new _ _ _
  have B0 : Hid (Below w.heap.size w W0) := by rw [hW0]; exact balCn (Below.refl _ _) _
  have S1 := hid (szStrB a1 n1 c1 t1 L h0 h1 hs.wo.1 hs.wo.2 W0 (h.wo.below B0.out))
  have S2 := fun L h0 h1 => hid (szStrB a2 n2 c2 t2 L h0 h1 hs.wa.1 hs.wa.2 W0 (h.wa.below B0.out))
  have S3 := fun L h0 h1 => hid (szStrB a3 n3 c3 t3 L h0 h1 hs.wi.1 hs.wi.2 W0 (h.wi.below B0.out))
  have S4 := fun L h0 h1 => hid (szCB ⟨a4, n4, c4, o4⟩ L h0 h1 hs.cs W0 (h.cs.below B0.out))
  have a1' := A0.cell 1
  have a2' := A0.cell 2
  have a3' := A0.cell 3
  have a4' := A0.cell 4
  clear h hs A0
  go_enter Tryd.func33, Tryd.ntmps33
  go_wp2_with fail
  rw [← hW0]
  clear hW0
  refine (S1).out.mono ?_
  rintro e w2 ⟨z1, rfl, rfl, hz1, hq1⟩
  by_cases hn1 : z1 < 0
  · clear hq1
    go_wp2
    go_ret
    exact ⟨⟨-1, rfl, by decide, .inl (by decide)⟩, B0.out⟩
  have Q1 := hid (hq1.resolve_left hn1)
  clear hq1
  go_wp2_with fail
  refine (S2 z1 (by omega) hz1).out.mono ?_
  rintro e w2 ⟨z2, rfl, rfl, hz2, hq2⟩
  by_cases hn2 : z2 < 0
  · clear hq2
    go_wp2
    go_ret
    exact ⟨⟨-1, rfl, by decide, .inl (by decide)⟩, B0.out⟩
  have Q2 := hid (hq2.resolve_left hn2)
  clear hq2
  go_wp2_with fail
  refine (S3 z2 (by omega) hz2).out.mono ?_
  rintro e w2 ⟨z3, rfl, rfl, hz3, hq3⟩
  by_cases hn3 : z3 < 0
  · clear hq3
    go_wp2
    go_ret
    exact ⟨⟨-1, rfl, by decide, .inl (by decide)⟩, B0.out⟩
  have Q3 := hid (hq3.resolve_left hn3)
  clear hq3
  go_wp2_with fail
  refine (S4 z3 (by omega) hz3).out.mono ?_
  rintro e w3 ⟨⟨z4, rfl, hz4, hq4⟩, hb3⟩
  have B3 := hid (B0.out.trans (hb3.mono B0.out.size))
  clear hb3
  by_cases hn4 : z4 < 0
  · clear hq4
    go_wp2
    go_ret
    exact ⟨⟨-1, rfl, by decide, .inl (by decide)⟩, B3.out⟩
  have Q4 := hid (hq4.resolve_left hn4)
  clear hq4
  go_wp2
  go_ret
  exact ⟨⟨z4, rfl, hz4, .inr ⟨Q1.out, Q2.out, Q3.out, Q4.out⟩⟩, B3.out⟩
/-- two statements that read alike -/
structure StEq (s s' : St) : Prop where
  ef : s.ef = s'.ef
  n1 : s.wo.n = s'.wo.n
  t1 : s.wo.ts = s'.wo.ts
  n2 : s.wa.n = s'.wa.n
  t2 : s.wa.ts = s'.wa.ts
  n3 : s.wi.n = s'.wi.n
  t3 : s.wi.ts = s'.wi.ts
  n4 : s.cs.n = s'.cs.n
  o4 : s.cs.o = s'.cs.o
theorem eqStB (s s' : SS) (hn : s.n = s'.n) (ht : s.ts = s'.ts) (hl : s.n ≤ 1048576) (w : World) (h : Strs w s.ad s.n s.cap s.ts) (h' : Strs w s'.ad s'.n s'.cap s'.ts) :
    Calls Tryd.prog 68 #[.slice s.ad s.n s.cap, .slice s'.ad s'.n s'.cap] w fun e w' => e = .returned (.bool true) ∧ Below w.heap.size w w' := by
  rw [← hn, ← ht] at h'
  rw [← hn]
  refine (eqStr s.ad s.n s.cap s'.ad s'.cap s.ts s.ts hl (fun _ _ => rfl) w h h').mono ?_
  rintro e w' ⟨rfl, k, rfl⟩
  exact ⟨rfl, rfl, rfl, rfl, Nat.le_refl _, fun _ _ => rfl⟩
theorem eqCnB (s s' : CS) (hn : s.n = s'.n) (ho : s.o = s'.o) (hl : s.n ≤ 1048576) (w : World) (h : Cns w s.ad s.n s.cap s.o) (h' : Cns w s'.ad s'.n s'.cap s'.o) :
    Calls Tryd.prog 69 #[.slice s.ad s.n s.cap, .slice s'.ad s'.n s'.cap] w fun e w' => e = .returned (.bool true) ∧ Below w.heap.size w w' := by
  rw [← hn, ← ho] at h'
  rw [← hn]
  exact eqCns s.ad s.n s.cap s'.ad s'.cap s.o hl w h h'
set_option maxRecDepth 20000 in
set_option maxHeartbeats 4000000 in
theorem eqSt (s s' : St) (he : StEq s s') (hs : StB s 1048576) (w : World) (h : StIn w s) (h' : StIn w s') :
    Calls Tryd.prog 41 #[.agg #[.int .i64 s.ef, .slice s.wo.ad s.wo.n s.wo.cap, .slice s.wa.ad s.wa.n s.wa.cap, .slice s.wi.ad s.wi.n s.wi.cap, .slice s.cs.ad s.cs.n s.cs.cap], .agg #[.int .i64 s'.ef, .slice s'.wo.ad s'.wo.n s'.wo.cap, .slice s'.wa.ad s'.wa.n s'.wa.cap, .slice s'.wi.ad s'.wi.n s'.wi.cap, .slice s'.cs.ad s'.cs.n s'.cs.cap]] w fun e w' => e = .returned (.bool true) ∧ Below w.heap.size w w' := by
  obtain ⟨f1, ⟨a1, n1, c1, t1⟩, ⟨a2, n2, c2, t2⟩, ⟨a3, n3, c3, t3⟩, ⟨a4, n4, c4, o4⟩⟩ := s
  obtain ⟨g1, ⟨b1, m1, e1, u1⟩, ⟨b2, m2, e2, u2⟩, ⟨b3, m3, e3, u3⟩, ⟨b4, m4, e4, p4⟩⟩ := s'
  obtain ⟨rfl, q1, q2, q3, q4, q5, q6, q7, q8⟩ := he
  dsimp only at q1 q2 q3 q4 q5 q6 q7 q8 ⊢
  subst q1 q2 q3 q4 q5 q6 q7 q8
  obtain ⟨W0, hW0⟩ : ∃ W, W = (w.alloc (.cells #[.int .i64 f1, .slice a1 n1 c1, .slice a2 n2 c2, .slice a3 n3 c3, .slice a4 n4 c4] 33)).alloc (.cells #[.int .i64 f1, .slice b1 n1 e1, .slice b2 n2 e2, .slice b3 n3 e3, .slice b4 n4 e4] 33) := ⟨_, rfl⟩
  have A0 : Hid (RowAt W0 w.heap.size 33 #[.int .i64 f1, .slice a1 n1 c1, .slice a2 n2 c2, .slice a3 n3 c3, .slice a4 n4 c4]) := by rw [hW0]; exact (RowAt.new _ _ _).alloc _
  have A1 : Hid (RowAt W0 (w.heap.size + 1) 33 #[.int .i64 f1, .slice b1 n1 e1, .slice b2 n2 e2, .slice b3 n3 e3, .slice b4 n4 e4]) := by rw [hW0]; exact RowAt.next _ _ _ (by rw [size_al])
  have B0 : Hid (Below w.heap.size w W0) := by rw [hW0]; exact balCn (balCn (Below.refl _ _) _) _
  have z1 : Hid (w.heap.size + 1 < W0.heap.size) := A1.out.lt
  have z0 : Hid (w.heap.size < W0.heap.size) := A0.out.lt
  have K1 := fun wx (hb : Below W0.heap.size W0 wx) => hid (eqStB ⟨a1, n1, c1, t1⟩ ⟨b1, n1, e1, t1⟩ rfl rfl hs.wo.1 wx ((h.wo.below B0.out).below hb) ((h'.wo.below B0.out).below hb))
  have K2 := fun wx (hb : Below W0.heap.size W0 wx) => hid (eqStB ⟨a2, n2, c2, t2⟩ ⟨b2, n2, e2, t2⟩ rfl rfl hs.wa.1 wx ((h.wa.below B0.out).below hb) ((h'.wa.below B0.out).below hb))
  have K3 := fun wx (hb : Below W0.heap.size W0 wx) => hid (eqStB ⟨a3, n3, c3, t3⟩ ⟨b3, n3, e3, t3⟩ rfl rfl hs.wi.1 wx ((h.wi.below B0.out).below hb) ((h'.wi.below B0.out).below hb))
  have K4 := fun wx (hb : Below W0.heap.size W0 wx) => hid (eqCnB ⟨a4, n4, c4, o4⟩ ⟨b4, n4, e4, o4⟩ rfl rfl hs.cs.1 wx ((h.cs.below B0.out).below hb) ((h'.cs.below B0.out).below hb))
  have d0 : (f1 != f1) = false := by simp
  have x1 := A0.out.cell 1
  have y1 := A1.out.cell 1
  clear h h' hs
  go_enter Tryd.func41, Tryd.ntmps41
  go_wp2_with fail
  rw [← hW0]
  clear hW0 x1 y1
  refine (K1 _ (Below.refl _ _)).out.mono ?_
  rintro e w1 ⟨rfl, hb1⟩
  have BB := hid hb1
  clear hb1
  have x2 := (BB.out.cell (p := ⟨w.heap.size, 2, none⟩) z0.out).trans (A0.out.cell 2)
  have y2 := (BB.out.cell (p := ⟨w.heap.size + 1, 2, none⟩) z1.out).trans (A1.out.cell 2)
  go_wp2_with fail
  refine (K2 _ BB.out).out.mono ?_
  rintro e w2 ⟨rfl, hb2⟩
  have BN := hid (BB.out.trans (hb2.mono BB.out.size))
  clear hb2 BB x2 y2
  have BB := BN
  clear BN
  have x3 := (BB.out.cell (p := ⟨w.heap.size, 3, none⟩) z0.out).trans (A0.out.cell 3)
  have y3 := (BB.out.cell (p := ⟨w.heap.size + 1, 3, none⟩) z1.out).trans (A1.out.cell 3)
  go_wp2_with fail
  refine (K3 _ BB.out).out.mono ?_
  rintro e w3 ⟨rfl, hb3⟩
  have BN := hid (BB.out.trans (hb3.mono BB.out.size))
  clear hb3 BB x3 y3
  have BB := BN
  clear BN
  have x4 := (BB.out.cell (p := ⟨w.heap.size, 4, none⟩) z0.out).trans (A0.out.cell 4)
  have y4 := (BB.out.cell (p := ⟨w.heap.size + 1, 4, none⟩) z1.out).trans (A1.out.cell 4)
  go_wp2_with fail
  refine (K4 _ BB.out).out.mono ?_
  rintro e w4 ⟨rfl, hb4⟩
  have BN := hid (BB.out.trans (hb4.mono BB.out.size))
  clear hb4 BB x4 y4
  have BB := BN
  clear BN
  go_wp2
  go_ret
  exact ⟨rfl, B0.out.trans (BB.out.mono B0.out.size)⟩
end Go.Proofs.YtjfmjcdopokkaaaDoor
