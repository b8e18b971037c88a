import Derived.Test.YtcfahbcpfjhajaaGreatDoorLS
import Derived.Test.YtcfahbcpfjhajaaGreatDoorS2
import Derived.Test.YtcfahbcpfjhajaaGreatDoorLawSgR
import Derived.Deep.SlicePairs
import Derived.Deep.Strs
import Derived.Lib.SmallJoins
namespace Go.Proofs.YtcfahbcpfjhajaaGreatDoor
open Go.RowKit
/-! The laws on requests, out of contracts of the program's functions. -/
theorem RqEq.P {r r' : Rq} (h : RqEq r r') : rqP r ↔ rqP r' := by
  unfold rqP
  rw [h.mt, h.pt, h.n1, h.o1, h.n2, h.o2, h.bd]
theorem RqEq.V {r r' : Rq} (h : RqEq r r') : rqV r = rqV r' := by unfold rqV; rw [pb_congr h.P]
theorem RqEq.W {r r' : Rq} (h : RqEq r r') : wrqL r = wrqL r' := by
  unfold wrqL headL
  rw [pb_congr h.P, h.mt, h.pt, h.n1, h.o1, h.n2, h.o2, h.bd]
theorem RqEq.B {r r' : Rq} (h : RqEq r r') {B : Nat} (hb : RqB r B) : RqB r' B := by
  obtain ⟨b1, b2, ⟨b3, b3'⟩, ⟨b4, b4'⟩, b5⟩ := hb
  refine ⟨by rw [← h.mt]; exact b1, by rw [← h.pt]; exact b2, ⟨by rw [← h.n1]; exact b3, ?_⟩, ⟨by rw [← h.n2]; exact b4, ?_⟩, by rw [← h.bd]; exact b5⟩
  · rw [← h.n1, ← h.o1]; exact b3'
  · rw [← h.n2, ← h.o2]; exact b4'
theorem RqEq.symm {r r' : Rq} (h : RqEq r r') : RqEq r' r := ⟨h.mt.symm, h.pt.symm, h.n1.symm, h.o1.symm, h.n2.symm, h.o2.symm, h.bd.symm⟩
theorem RqEq.trans {r r' r2 : Rq} (h : RqEq r r') (k : RqEq r' r2) : RqEq r r2 := ⟨h.mt.trans k.mt, h.pt.trans k.pt, h.n1.trans k.n1, h.o1.trans k.o1, h.n2.trans k.n2, h.o2.trans k.o2, h.bd.trans k.bd⟩
def RqIs (w : World) (r : Rq) : Prop := RqIn w r ∧ RqB r 9223372036854775807
end Go.Proofs.YtcfahbcpfjhajaaGreatDoor
namespace Go.Proofs.YtcfahbcpfjhajaaGreatDoor
open Go.RowKit
set_option linter.unusedVariables false
/-! The law on SignRequest (by genlawsg2.py). -/
theorem OwnHp.keptB {w w' : World} {B : Nat} {v : Value} {L : List Hp} (h : OwnHp w B v L) (hk : ∀ g, v.ownBlock = some g → w'.heap[g]? = w.heap[g]?) : OwnHp w' B v L := by
  refine ⟨h.1, ?_⟩
  rcases h.2 with h0 | ⟨g, cap, cur, e, hb, hr, r⟩
  · exact .inl h0
  · exact .inr ⟨g, cap, cur, e, hb, (hk g (by rw [e]; rfl)).trans hr, r⟩
theorem ansSg_eq {r r' : Rq} (h : RqEq r r') {w : World} {id sec : ByteArray} {nw ls : Int} {ts : Nat → ByteArray} {m : Nat} {e : Ending} {w' : World} (ha : AnsSg w r' id sec nw ls ts m e w') : AnsSg w r id sec nw ls ts m e w' := by
  obtain ⟨mt, pt, ⟨a1, n1, c1, o1⟩, ⟨a2, n2, c2, o2⟩, bd⟩ := r
  obtain ⟨mt', pt', ⟨b1, m1, e1, p1⟩, ⟨b2, m2, e2, p2⟩, bd'⟩ := r'
  obtain ⟨q1, q2, q3, q4, q5, q6, q7⟩ := h
  dsimp only at q1 q2 q3 q4 q5 q6 q7
  subst q1 q2 q3 q4 q5 q6 q7
  exact ha
/-- what both answers have in common -/
theorem sgTup (r : Rq) (id sec : ByteArray) (nw ls : Int) (ts : Nat → ByteArray) (m : Nat) : ∃ (mA pA bA : ByteArray) (QA HA : List Hp), QA.length ≤ 100 ∧ HA.length ≤ 100 ∧ (∀ a1 c1 a2 c2, RqB ⟨mA, pA, ⟨a1, QA.length, c1, hAt QA⟩, ⟨a2, HA.length, c2, hAt HA⟩, bA⟩ 1048576) ∧ ∀ r', RqEq r r' → ∀ w e w', AnsSg w r' id sec nw ls ts m e w' → AnsC QA.length HA.length mA pA bA QA HA w e w' := by
  by_cases ok : sgOk r id sec nw ls ts m
  · refine ⟨r.mt, r.pt, r.bd, sgQ2 r id sec nw ls ts m, sgH r, ?_, ?_, ?_, ?_⟩
    · exact Nat.le_trans ok.2.2.2.2.2.1.1 (by omega)
    · exact Nat.le_trans ok.2.2.2.2.2.2.1.1 (by omega)
    · intro a1 c1 a2 c2
      obtain ⟨p1, ⟨_, p2, _⟩, p3, p4, p5, p6, p7⟩ := ok.2.2.2
      have l1 : (sgQ2 r id sec nw ls ts m).length ≤ 30 := p3.1
      have l2 : (sgH r).length ≤ 30 := p4.1
      have m1 : r.mt.size ≤ 10 := p1.2.1
      have m2 : r.pt.size ≤ 1000 := by first | exact p2 | exact ok.1.1.2.1.2.1
      have m3 : r.bd.size ≤ 100000 := p5
      refine ⟨by dsimp only; omega, by dsimp only; omega, ⟨by dsimp only; omega, fun i hi => ?_⟩, ⟨by dsimp only; omega, fun i hi => ?_⟩, by dsimp only; omega⟩
      · have := p6 i hi
        exact ⟨Nat.le_trans this.2.1 (by omega), Nat.le_trans this.2.2 (by omega)⟩
      · have := p7 i hi
        exact ⟨Nat.le_trans this.1.2.1 (by omega), Nat.le_trans this.2.1 (by omega)⟩
    · intro r' he w e w' ha
      obtain ⟨hb, ⟨_, a1, c1, a2, c2, B1, B2, rfl, o1, o2, l1, l2, ap⟩ | ⟨no, _⟩⟩ := ansSg_eq he ha
      · refine ⟨a1, c1, a2, c2, rfl, o1.mono l1, o2.mono l2, fun g hg q => ?_, hb⟩
        rcases ap with ap | ap
        · rw [ap] at q; cases q
        · exact ap (by rw [q, hg])
      · exact absurd ok no
  · refine ⟨⟨#[]⟩, ⟨#[]⟩, ⟨#[]⟩, [], [], by simp, by simp, fun _ _ _ _ => ⟨show 0 ≤ 1048576 by omega, show 0 ≤ 1048576 by omega, ⟨by simp, fun i h => absurd h (by simp)⟩, ⟨by simp, fun i h => absurd h (by simp)⟩, show 0 ≤ 1048576 by omega⟩, ?_⟩
    intro r' he w e w' ha
    obtain ⟨hb, ⟨yes, _⟩ | ⟨_, rfl⟩⟩ := ansSg_eq he ha
    · exact absurd yes ok
    · exact ⟨none, 0, none, 0, rfl, World.ownsRow_nil _ _ _ _, World.ownsRow_nil _ _ _ _, (fun g h => by cases h), hb⟩
set_option maxRecDepth 20000 in
set_option maxHeartbeats 16000000 in
theorem fnExactSignRequest_of (r : Rq) (id sec : ByteArray) (hid0 : id.size ≤ 9223372036854775807) (hsec0 : sec.size ≤ 9223372036854775807) (tA : Option Addr) (m mc : Nat) (ts : Nat → ByteArray) (nw ls : Int) {w : World} (hTB : TB w) (h : RqIs w r) (hS : Strs w tA m mc ts) (hm9 : m ≤ 9223372036854775807) (hz9 : ∀ i, i < m → (ts i).size ≤ 9223372036854775807) :
    Calls Tryz.prog 5 #[.agg #[.string r.mt, .string r.pt, .slice r.qs.ad r.qs.n r.qs.cap, .slice r.hs.ad r.hs.n r.hs.cap, .string r.bd], .agg #[.string id, .string sec], .slice tA m mc, .int .i64 nw, .int .i64 ls] w fun e w' => e = .returned (.bool true) ∧ Below w.heap.size w w' := by
  obtain ⟨hI, hB9⟩ := h
  obtain ⟨W1, hW1⟩ : ∃ W, W = (w.alloc (.cells #[.string r.mt, .string r.pt, .slice r.qs.ad r.qs.n r.qs.cap, .slice r.hs.ad r.hs.n r.hs.cap, .string r.bd] 44)).alloc (.cells #[.string id, .string sec] 45) := ⟨_, rfl⟩
  have X5a : Hid (RowAt W1 w.heap.size 44 #[.string r.mt, .string r.pt, .slice r.qs.ad r.qs.n r.qs.cap, .slice r.hs.ad r.hs.n r.hs.cap, .string r.bd]) := by rw [hW1]; exact (RowAt.new _ _ _).alloc _
  have X6a : Hid (RowAt W1 (w.heap.size + 1) 45 #[.string id, .string sec]) := by rw [hW1]; exact RowAt.next _ _ _ (by simp only [size_al])
  have B1 : Hid (Below w.heap.size w W1) := by rw [hW1]; exact ((Below.refl _ _).alloc (Nat.le_refl _) _).alloc (by simp) _
  have SZ := hid (szRq r 1048576 (by omega) (by omega) hB9 W1 (hI.below B1.out))
  have SS := fun L h0 h1 wx hbx => hid (szStrL tA m mc ts L h0 h1 hm9 hz9 wx (hS.below hbx))
  have SA := fun z h0 h1 wx => hid (sz1Ak id sec z h1 h0 hid0 hsec0 wx)
  have KR0 : Hid (RqB r 1048576 → ∀ wx, Below w.heap.size w wx → Calls Tryz.prog 19 #[.agg #[.string r.mt, .string r.pt, .slice r.qs.ad r.qs.n r.qs.cap, .slice r.hs.ad r.hs.n r.hs.cap, .string r.bd]] wx fun e w' => (∃ r' : Rq, e = .returned (.agg #[.string r'.mt, .string r'.pt, .slice r'.qs.ad r'.qs.n r'.qs.cap, .slice r'.hs.ad r'.hs.n r'.hs.cap, .string r'.bd]) ∧ RqEq r r' ∧ RqMade w' wx.heap.size r') ∧ Below wx.heap.size wx w') := fun hB wx hbx => toRq r hB wx (hI.below hbx)
  have KT0 : Hid (m ≤ 1048576 → ∀ wx, Below w.heap.size w wx → Calls Tryz.prog 21 #[.slice tA m mc] wx fun e w' => e = .returned (.slice (some ⟨wx.heap.size, 0, none⟩) m m) ∧ FRow w' wx.heap.size 9 m (fun i => .string (ts i)) ∧ Below wx.heap.size wx w') := fun hm wx hbx => toStr tA m mc ts hm wx (hS.below hbx)
  have KK : Hid (∀ wx, Calls Tryz.prog 20 #[.agg #[.string id, .string sec]] wx fun e w' => e = .returned (.agg #[.string id, .string sec]) ∧ Below wx.heap.size wx w') := fun wx => to1Ak id sec wx
  have HTB := hid hTB
  have HW1 := hid hW1
  clear hI hB9 hTB hS hm9 hz9 hW1 hid0 hsec0
  have x0 := X5a.out.cell 0
  have x1 := X5a.out.cell 1
  have x2 := X5a.out.cell 2
  have x3 := X5a.out.cell 3
  have x4 := X5a.out.cell 4
  go_enter Tryz.func5, Tryz.ntmps5
  go_wp2_with fail
  rw [← HW1.out]
  clear HW1 x0 x1 x2 x3 x4
  refine SZ.out.mono ?_
  rintro e w2 ⟨⟨z, rfl, hz1, hz2⟩, hb2⟩
  have X5b := hid (RowAt.nxS hb2 X5a.out)
  have X6b := hid (RowAt.nxS hb2 X6a.out)
  have B2 := hid (B1.out.trans (hb2.mono B1.out.size))
  clear hb2 X5a X6a B1 SZ
  by_cases hz : z < 0
  · clear hz2
    go_wp2
    go_ret
    exact ⟨rfl, B2.out⟩
  have HB := hid (hz2.resolve_left hz)
  have z0 : 0 ≤ z := by omega
  clear hz2 hz
  have hzn : ¬ z < 0 := by omega
  have k0 := X6b.out.cell 0
  have k1 := X6b.out.cell 1
  have SA1 := SA z z0 hz1
  by_cases hc : (id.size : Int) + sec.size ≤ z
  case neg =>
    simp only [if_neg hc] at SA1
    go_wp2_with fail
    refine (SA1 _).out.mono ?_
    rintro e w3 ⟨rfl, hb3⟩
    have B3 := hid (B2.out.trans (hb3.mono B2.out.size))
    clear hb3
    go_wp2
    go_ret
    exact ⟨rfl, B3.out⟩
  simp only [if_pos hc] at SA1
  have ID : id.size ≤ 1048576 := by omega
  obtain ⟨Z2, hZ2⟩ : ∃ Z, Z = z - (id.size : Int) - sec.size := ⟨_, rfl⟩
  have zz0 : 0 ≤ Z2 := by omega
  have zz1 : Z2 ≤ 1048576 := by omega
  have zzn : ¬ Z2 < 0 := by omega
  simp only [← hZ2] at SA1
  clear hZ2 hc
  go_wp2_with fail
  refine (SA1 _).out.mono ?_
  rintro e w3 ⟨rfl, hb3⟩
  have X5c := hid (RowAt.nxS hb3 X5b.out)
  have X6c := hid (RowAt.nxS hb3 X6b.out)
  have B3 := hid (B2.out.trans (hb3.mono B2.out.size))
  clear hb3 X5b X6b B2 k0 k1 SA SA1 hzn z0 hz1
  go_wp2_with fail
  refine (SS Z2 zz0 zz1 _ B3.out).out.mono ?_
  rintro e w3' ⟨z3, rfl, hw3, hq3⟩
  obtain rfl := hw3.symm
  clear hw3 SS zz0 zz1 zzn
  by_cases hz3 : z3 < 0
  · clear hq3
    go_wp2
    go_ret
    exact ⟨rfl, B3.out⟩
  have HQ3 := hid (hq3.resolve_left hz3)
  have hm := HQ3.out.1
  clear hq3
  obtain ⟨mA, pA, bA, QA, HA, lq, lh, hRB, hAN⟩ := sgTup r id sec nw ls ts m
  obtain ⟨q1, hq1⟩ : ∃ q, q = QA.length := ⟨_, rfl⟩
  obtain ⟨q2, hq2⟩ : ∃ q, q = HA.length := ⟨_, rfl⟩
  have HL : Hid (q1 = QA.length ∧ q2 = HA.length ∧ QA.length ≤ 100 ∧ HA.length ≤ 100) := ⟨hq1, hq2, lq, lh⟩
  rw [← hq1, ← hq2] at hRB hAN
  have HRB := hid hRB
  have KS : Hid (∀ wx r1 T1 lo, RqEq r r1 → RqMade wx lo r1 → Strs wx (some ⟨T1, 0, none⟩) m m ts → Calls Tryz.prog 9 #[.agg #[.string r1.mt, .string r1.pt, .slice r1.qs.ad r1.qs.n r1.qs.cap, .slice r1.hs.ad r1.hs.n r1.hs.cap, .string r1.bd], .agg #[.string id, .string sec], .slice (some ⟨T1, 0, none⟩) m m, .int .i64 nw, .int .i64 ls] wx (AnsC q1 q2 mA pA bA QA HA wx)) := fun wx r1 T1 lo he hm1 hs1 => by
    have hB1 := he.B HB.out
    have hin := hm1.in
    have fin := hAN r1 he wx
    obtain ⟨mt, pt, ⟨a1, n1, c1, o1⟩, ⟨a2, n2, c2, o2⟩, bd⟩ := r1
    obtain ⟨⟨g1, e1, _⟩, ⟨g2, e2, _⟩⟩ := hm1
    dsimp only at e1 e2 ⊢
    subst e1 e2
    exact (sSign mt pt g1 0 n1 c1 o1 g2 0 n2 c2 o2 bd id sec _ m m ts nw ls hB1 ID hm wx hin hs1).mono (fun e w' q => fin e w' q)
  have KI : Hid (∀ wx r1 T1, Below w.heap.size w wx → RqEq r r1 → RqIn wx r1 → Strs wx (some ⟨T1, 0, none⟩) m m ts → Calls Tryz.prog 8 #[.agg #[.string r1.mt, .string r1.pt, .slice r1.qs.ad r1.qs.n r1.qs.cap, .slice r1.hs.ad r1.hs.n r1.hs.cap, .string r1.bd], .agg #[.string id, .string sec], .slice (some ⟨T1, 0, none⟩) m m, .int .i64 nw, .int .i64 ls] wx (AnsC q1 q2 mA pA bA QA HA wx)) := fun wx r1 T1 hbx he hin hs1 => by
    have hB1 := he.B HB.out
    have fin := hAN r1 he wx
    obtain ⟨mt, pt, ⟨a1, n1, c1, o1⟩, ⟨a2, n2, c2, o2⟩, bd⟩ := r1
    exact (iSign mt pt a1 n1 c1 o1 a2 n2 c2 o2 bd id sec _ m m ts nw ls hB1 hm HQ3.out.2 wx (HTB.out.below hbx) hin hs1).mono (fun e w' q => fin e w' q)
  have KE : Hid (∀ wx a1 c1 a2 c2 b1 e1 b2 e2, Hps wx a1 q1 c1 (hAt QA) → Hps wx a2 q2 c2 (hAt HA) → Hps wx b1 q1 e1 (hAt QA) → Hps wx b2 q2 e2 (hAt HA) → Calls Tryz.prog 22 #[.agg #[.string mA, .string pA, .slice a1 q1 c1, .slice a2 q2 c2, .string bA], .agg #[.string mA, .string pA, .slice b1 q1 e1, .slice b2 q2 e2, .string bA]] wx fun e w' => e = .returned (.bool true) ∧ Below wx.heap.size wx w') := fun wx a1 c1 a2 c2 b1 e1 b2 e2 h1 h2 h3 h4 =>
    eqRq ⟨mA, pA, ⟨a1, q1, c1, hAt QA⟩, ⟨a2, q2, c2, hAt HA⟩, bA⟩ ⟨mA, pA, ⟨b1, q1, e1, hAt QA⟩, ⟨b2, q2, e2, hAt HA⟩, bA⟩ ⟨rfl, rfl, rfl, rfl, rfl, rfl, rfl⟩ (HRB.out a1 c1 a2 c2) wx ⟨h1, h2⟩ ⟨h3, h4⟩
  have KR := hid (KR0.out HB.out)
  have KT := hid (KT0.out hm)
  clear KR0 KT0 hAN hRB hq1 hq2 lq lh
  go_upto_region 11 with fail
  refine lg11_wp w3 w.heap.size (w.heap.size + 1) r id sec tA m mc ts nw ls mA pA bA q1 q2 QA HA w3 (Below.refl _ _) X5c.out X6c.out (fun wx hb => KR.out wx (B3.out.trans (hb.mono B3.out.size))) KK.out (fun wx hb => (KT.out wx (B3.out.trans (hb.mono B3.out.size))).mono (fun e w' q => ⟨q.1, q.2.1.strs, q.2.2⟩)) (fun wx r1 T1 _ he hm1 hs1 => KS.out wx r1 T1 _ he hm1 hs1) ?_
  intro rS TS s1 d1 s2 d2 BA X12 w5 hB5 _ _ hAN hXA _ _ _ _
  have B5 := hid (B3.out.trans (hB5.mono B3.out.size))
  have X5d := hid (RowAt.nxS hB5 X5c.out)
  have X6d := hid (RowAt.nxS hB5 X6c.out)
  have X12d := hid hXA.1
  have S5 : Hid (Hps w5 s1 q1 d1 (hAt QA) ∧ Hps w5 s2 q2 d2 (hAt HA)) := ⟨hps_own hAN.1 HL.out.1, hps_own hAN.2.1 HL.out.2.1⟩
  clear hB5 hAN hXA X5c X6c B3 KS
  have x0 := X5d.out.cell 0
  have x1 := X5d.out.cell 1
  have x2 := X5d.out.cell 2
  have x3 := X5d.out.cell 3
  have x4 := X5d.out.cell 4
  go_wp2_with fail
  refine (KR.out _ B5.out).mono ?_
  rintro e w6 ⟨⟨r1, rfl, hq6, hm6⟩, hb6⟩
  have Q6 := hid hq6
  have M6 := hid hm6
  have HB6 := hid hb6
  clear hq6 hm6 hb6 x0 x1 x2 x3 x4
  obtain ⟨X13, hX13⟩ : ∃ X, X = w6.heap.size := ⟨_, rfl⟩
  obtain ⟨W7, hW7⟩ : ∃ W, W = w6.alloc (.cells #[.string r1.mt, .string r1.pt, .slice r1.qs.ad r1.qs.n r1.qs.cap, .slice r1.hs.ad r1.hs.n r1.hs.cap, .string r1.bd] 25) := ⟨_, rfl⟩
  have b67 : Below w6.heap.size w6 W7 := by rw [hW7]; exact (Below.refl _ _).alloc (Nat.le_refl _) _
  have X13e : Hid (RowAt W7 X13 25 #[.string r1.mt, .string r1.pt, .slice r1.qs.ad r1.qs.n r1.qs.cap, .slice r1.hs.ad r1.hs.n r1.hs.cap, .string r1.bd]) := by rw [hW7, hX13]; exact RowAt.new _ _ _
  have B57 : Hid (Below w5.heap.size w5 W7) := HB6.out.trans (b67.mono HB6.out.size)
  have M7 := hid (M6.out.below b67)
  have L6 : Hid (w5.heap.size ≤ X13 ∧ X13 < W7.heap.size ∧ ∀ g o, (r1.qs.ad = some ⟨g, o, none⟩ ∨ r1.hs.ad = some ⟨g, o, none⟩) → w5.heap.size ≤ g ∧ g < X13) := by
    refine ⟨by rw [hX13]; exact HB6.out.size, X13e.out.lt, fun g o q => ?_⟩
    obtain ⟨⟨g1, e1, _, l1, f1⟩, ⟨g2, e2, _, l2, f2⟩⟩ := M6.out
    have t1 := f1.lt
    have t2 := f2.lt
    rw [hX13]
    rcases q with q | q
    · rw [e1] at q; cases q; exact ⟨l1, t1⟩
    · rw [e2] at q; cases q; exact ⟨l2, t2⟩
  have HW7 := hid hW7
  have HX13 := hid hX13
  clear hW7 hX13 b67 M6 HB6
  go_upto_region 13 with ((refine wpList_store_row rfl 25 (.tmp 13) (.tmp 45) rfl w6.heap.size #[.string r1.mt, .string r1.pt, .slice r1.qs.ad r1.qs.n r1.qs.cap, .slice r1.hs.ad r1.hs.n r1.hs.cap, .string r1.bd] rfl rfl _ _ (RowAt.new w6 _ _) (by kernel_rfl) rfl (by simp [Value.oneCell']) ?_); rw [World.setRow_alloc_new])
  rw [← HW7.out, ← HX13.out]
  clear HW7 HX13
  go_wp2_with fail
  refine (KT.out _ (B5.out.trans (B57.out.mono B5.out.size))).mono ?_
  rintro e w8 ⟨rfl, hF8, hb8⟩
  obtain ⟨T1, hT1⟩ : ∃ T, T = W7.heap.size := ⟨_, rfl⟩
  rw [← hT1] at hF8 ⊢
  have F8 := hid hF8
  have X13f := hid (RowAt.nxS hb8 X13e.out)
  have M8 := hid (M7.out.below hb8)
  have B58 : Hid (Below w5.heap.size w5 w8) := B57.out.trans (hb8.mono B57.out.size)
  have B8 : Hid (Below w.heap.size w w8) := B5.out.trans (B58.out.mono B5.out.size)
  have L8 : Hid (X13 < T1 ∧ T1 < w8.heap.size) := ⟨by rw [hT1]; exact L6.out.2.1, hF8.lt⟩
  clear hF8 hb8 hT1 X13e M7 B57
  have X6f := hid (X6d.out.below B58.out X6d.out.lt)
  go_upto_region 14 with fail
  refine lg14_wp w8 w.heap.size (w.heap.size + 1) r id sec tA m mc ts nw ls mA pA bA q1 q2 QA HA r1 X13 T1 w8 (Below.refl _ _) X13f.out X6f.out KK.out (fun wx hb => KI.out wx r1 T1 (B8.out.trans (hb.mono B8.out.size)) Q6.out (M8.out.in.below hb) (F8.out.strs.below hb)) ?_
  intro a1 c1 a2 c2 BG XG w9 hB9 _ _ hAN hXA _ _
  have OG := hid hAN
  have XGa := hid hXA.1
  have LG : Hid (w8.heap.size ≤ XG ∧ w8.heap.size ≤ BG) := ⟨hXA.2, hAN.2.2.1⟩
  have X13g := hid (RowAt.nxS hB9 X13f.out)
  have M9 := hid (M8.out.below hB9)
  have F9 : Hid (FRow w9 T1 9 m (fun i => .string (ts i))) := F8.out.below hB9 F8.out.lt
  have B59 : Hid (Below w5.heap.size w5 w9) := B58.out.trans (hB9.mono B58.out.size)
  have z89 : w8.heap.size ≤ w9.heap.size := hB9.size
  clear hB9 hAN hXA X13f M8 F8 B58 B8 X6f
  have X12g := hid (X12d.out.below B59.out X12d.out.lt)
  have y0 := XGa.out.cell 0
  have y1 := XGa.out.cell 1
  have y2 := XGa.out.cell 2
  have y3 := XGa.out.cell 3
  have y4 := XGa.out.cell 4
  have x0 := X12g.out.cell 0
  have x1 := X12g.out.cell 1
  have x2 := X12g.out.cell 2
  have x3 := X12g.out.cell 3
  have x4 := X12g.out.cell 4
  go_wp2_with fail
  refine (KE.out _ a1 c1 a2 c2 s1 d1 s2 d2 (hps_own OG.out.1 HL.out.1) (hps_own OG.out.2.1 HL.out.2.1) (S5.out.1.below B59.out) (S5.out.2.below B59.out)).mono ?_
  rintro e w10 ⟨rfl, hb10⟩
  have X13h := hid (RowAt.nxS hb10 X13g.out)
  have M10 := hid (M9.out.below hb10)
  have F10 : Hid (FRow w10 T1 9 m (fun i => .string (ts i))) := F9.out.below hb10 F9.out.lt
  have B5a : Hid (Below w5.heap.size w5 w10) := B59.out.trans (hb10.mono B59.out.size)
  have OGa : Hid (OwnHp w10 BG (.slice a1 q1 c1) QA ∧ OwnHp w10 BG (.slice a2 q2 c2) HA) := ⟨OwnHp.next hb10 OG.out.1, OwnHp.next hb10 OG.out.2.1⟩
  have DJ := hid OG.out.2.2.2
  have XGb := hid (RowAt.nxS hb10 XGa.out)
  have za : w8.heap.size ≤ w10.heap.size := Nat.le_trans z89 hb10.size
  clear hb10 X13g M9 F9 B59 OG XGa X12g z89 y0 y1 y2 y3 y4 x0 x1 x2 x3 x4
  have X5h := hid (X5d.out.below B5a.out X5d.out.lt)
  have x0 := X5h.out.cell 0
  have x1 := X5h.out.cell 1
  have x2 := X5h.out.cell 2
  have x3 := X5h.out.cell 3
  have x4 := X5h.out.cell 4
  have u0 := X13h.out.cell 0
  have u1 := X13h.out.cell 1
  have u2 := X13h.out.cell 2
  have u3 := X13h.out.cell 3
  have u4 := X13h.out.cell 4
  have KR2 : Hid (∀ wx, Below w10.heap.size w10 wx → Calls Tryz.prog 19 #[.agg #[.string r.mt, .string r.pt, .slice r.qs.ad r.qs.n r.qs.cap, .slice r.hs.ad r.hs.n r.hs.cap, .string r.bd]] wx fun e w' => (∃ r' : Rq, e = .returned (.agg #[.string r'.mt, .string r'.pt, .slice r'.qs.ad r'.qs.n r'.qs.cap, .slice r'.hs.ad r'.hs.n r'.hs.cap, .string r'.bd]) ∧ RqEq r r' ∧ RqMade w' wx.heap.size r') ∧ Below wx.heap.size wx w') := fun wx hb => KR.out wx (B5.out.trans ((B5a.out.trans (hb.mono B5a.out.size)).mono B5.out.size))
  have KE2 : Hid (∀ wx r2, Below w10.heap.size w10 wx → RqEq r r2 → RqIn wx r2 → Calls Tryz.prog 22 #[.agg #[.string r1.mt, .string r1.pt, .slice r1.qs.ad r1.qs.n r1.qs.cap, .slice r1.hs.ad r1.hs.n r1.hs.cap, .string r1.bd], .agg #[.string r2.mt, .string r2.pt, .slice r2.qs.ad r2.qs.n r2.qs.cap, .slice r2.hs.ad r2.hs.n r2.hs.cap, .string r2.bd]] wx fun e w' => e = .returned (.bool true) ∧ Below wx.heap.size wx w') := fun wx r2 hb he hin => eqRq r1 r2 (Q6.out.symm.trans he) (Q6.out.B HB.out) wx (M10.out.in.below hb) hin
  obtain ⟨N0, hN0⟩ : ∃ n, n = w10.heap.size := ⟨_, rfl⟩
  have JB : Hid (Below w10.heap.size w10 w10) := Below.refl _ _
  clear hN0 N0
  go_upto_region 17 with fail
  go_region_held3 (fun wx => (((wx.cell? ⟨w.heap.size, 0, none⟩ = some (.string r.mt) ∧ wx.cell? ⟨w.heap.size, 1, none⟩ = some (.string r.pt)) ∧ (wx.cell? ⟨w.heap.size, 2, none⟩ = some (.slice r.qs.ad r.qs.n r.qs.cap) ∧ (wx.cell? ⟨w.heap.size, 3, none⟩ = some (.slice r.hs.ad r.hs.n r.hs.cap) ∧ wx.cell? ⟨w.heap.size, 4, none⟩ = some (.string r.bd)))) ∧ ((wx.cell? ⟨X13, 0, none⟩ = some (.string r1.mt) ∧ wx.cell? ⟨X13, 1, none⟩ = some (.string r1.pt)) ∧ (wx.cell? ⟨X13, 2, none⟩ = some (.slice r1.qs.ad r1.qs.n r1.qs.cap) ∧ (wx.cell? ⟨X13, 3, none⟩ = some (.slice r1.hs.ad r1.hs.n r1.hs.cap) ∧ wx.cell? ⟨X13, 4, none⟩ = some (.string r1.bd))))))
    (first | (go_keep; done) | exact ⟨⟨⟨(X5h.out.below J1.out X5h.out.lt).cell 0, (X5h.out.below J1.out X5h.out.lt).cell 1⟩, ⟨(X5h.out.below J1.out X5h.out.lt).cell 2, ⟨(X5h.out.below J1.out X5h.out.lt).cell 3, (X5h.out.below J1.out X5h.out.lt).cell 4⟩⟩⟩, ⟨⟨(X13h.out.below J1.out X13h.out.lt).cell 0, (X13h.out.below J1.out X13h.out.lt).cell 1⟩, ⟨(X13h.out.below J1.out X13h.out.lt).cell 2, ⟨(X13h.out.below J1.out X13h.out.lt).cell 3, (X13h.out.below J1.out X13h.out.lt).cell 4⟩⟩⟩⟩)
    ((first
      | (go_at_call 19; have hJ2 := JB.out; (first | with_reducible refine (KR2.out _ hJ2).mono ?_ | with_reducible refine (KR2.out _ (Below.drew hJ2)).mono ?_); clear hJ2; rintro e v1 ⟨⟨r2, rfl, hq2, hm2⟩, hb2⟩; (first | have hb3 : Below w10.heap.size w10 v1 := JB.out.trans (hb2.mono JB.out.size) | have hb3 : Below w10.heap.size w10 v1 := JB.out.trans ((nxD hb2).mono JB.out.size)); have J1 := hid hb3; have Q2 := hid hq2; have M2 := hid hm2; clear hb2 hb3 hq2 hm2)
      | (go_at_call 22; refine (KE2.out _ r2 J1.out Q2.out M2.out.in).mono ?_; rintro e v2 ⟨rfl, hb2⟩; have hb3 : Below w10.heap.size w10 v2 := J1.out.trans (hb2.mono J1.out.size); replace J1 := hid hb3; clear hb2 hb3)))
  clear x0 x1 x2 x3 x4 u0 u1 u2 u3 u4 Q2 M2 KR2 KE2 JB
  have X13i := hid (RowAt.nxS J1.out X13h.out)
  have M11 := hid (M10.out.below J1.out)
  have F11 : Hid (FRow v2 T1 9 m (fun i => .string (ts i))) := F10.out.below J1.out F10.out.lt
  have B5b : Hid (Below w5.heap.size w5 v2) := B5a.out.trans (J1.out.mono B5a.out.size)
  have OGb : Hid (OwnHp v2 BG (.slice a1 q1 c1) QA ∧ OwnHp v2 BG (.slice a2 q2 c2) HA) := ⟨OwnHp.next J1.out OGa.out.1, OwnHp.next J1.out OGa.out.2⟩
  have XGc := hid (RowAt.nxS J1.out XGb.out)
  have zb : w8.heap.size ≤ v2.heap.size := Nat.le_trans za J1.out.size
  clear J1 X13h M10 F10 B5a OGa XGb za X5h
  go_wp2_with fail
  refine (KT.out _ (B5.out.trans (B5b.out.mono B5.out.size))).mono ?_
  rintro e w12 ⟨rfl, hF12, hb12⟩
  obtain ⟨T2, hT2⟩ : ∃ T, T = v2.heap.size := ⟨_, rfl⟩
  rw [← hT2] at hF12 ⊢
  have F12 := hid hF12
  have HB12 := hid hb12
  have F11b : Hid (FRow w12 T1 9 m (fun i => .string (ts i))) := F11.out.below hb12 F11.out.lt
  clear hF12 hb12 hT2
  go_wp2_with fail
  refine (eqStr (some ⟨T1, 0, none⟩) m m (some ⟨T2, 0, none⟩) m ts ts hm (fun _ _ => rfl) w12 F11b.out.strs F12.out.strs).mono ?_
  rintro e w13 ⟨rfl, kd, hw13⟩
  have b13 : Below v2.heap.size v2 w13 := by rw [hw13]; exact bdNS HB12.out kd
  have X13j := hid (RowAt.nxS b13 X13i.out)
  have M13 := hid (M11.out.below b13)
  have F13 : Hid (FRow w13 T1 9 m (fun i => .string (ts i))) := F11.out.below b13 F11.out.lt
  have B5c : Hid (Below w5.heap.size w5 w13) := B5b.out.trans (b13.mono B5b.out.size)
  have OGc : Hid (OwnHp w13 BG (.slice a1 q1 c1) QA ∧ OwnHp w13 BG (.slice a2 q2 c2) HA) := ⟨OwnHp.next b13 OGb.out.1, OwnHp.next b13 OGb.out.2⟩
  have XGd := hid (RowAt.nxS b13 XGc.out)
  have zc : w8.heap.size ≤ w13.heap.size := Nat.le_trans zb b13.size
  clear b13 hw13 X13i M11 F11 F11b F12 HB12 B5b OGb XGc zb
  obtain ⟨K1, hK1⟩ : ∃ K, K = 1 + 2 * r1.qs.n + 2 * r1.hs.n := ⟨_, rfl⟩
  have KMM := hid (markMade r1 (Q6.out.B HB.out) _ 1 (by omega) (by omega) w13 M13.out)
  rw [← hK1] at KMM
  have kb1 : 1 ≤ K1 := by omega
  have kb2 : K1 ≤ 5000000 := by have h1 := (Q6.out.B HB.out).qs.1; have h2 := (Q6.out.B HB.out).hs.1; omega
  clear hK1
  have u0 := X13j.out.cell 0
  have u1 := X13j.out.cell 1
  have u2 := X13j.out.cell 2
  have u3 := X13j.out.cell 3
  have u4 := X13j.out.cell 4
  go_wp2_with fail
  refine KMM.out.mono ?_
  rintro e w14 ⟨rfl, o14, t14, p14, z14, k14⟩
  have kk14 : ∀ j, j < w13.heap.size → (j < w5.heap.size ∨ X13 ≤ j) → w14.heap[j]? = w13.heap[j]? := fun j hj hr => k14 j hj (fun g o q => by have := L6.out.2.2 g o (.inl q); omega) (fun g o q => by have := L6.out.2.2 g o (.inr q); omega)
  have B5d : Hid (Below w5.heap.size w5 w14) := ⟨o14.trans B5c.out.os, t14.trans B5c.out.tape, p14.trans B5c.out.output, Nat.le_trans B5c.out.size z14, fun j hj => (kk14 j (Nat.lt_of_lt_of_le hj B5c.out.size) (.inl hj)).trans (B5c.out.block j hj)⟩
  have gz : ∀ g, w8.heap.size ≤ g → X13 ≤ g := fun g hg => by have := L8.out; omega
  have OGd : Hid (OwnHp w14 BG (.slice a1 q1 c1) QA ∧ OwnHp w14 BG (.slice a2 q2 c2) HA) := ⟨OGc.out.1.keptB (fun g e => kk14 g (World.ownsRow.lt OGc.out.1 g e).2 (.inr (gz g (Nat.le_trans LG.out.2 (World.ownsRow.lt OGc.out.1 g e).1)))), OGc.out.2.keptB (fun g e => kk14 g (World.ownsRow.lt OGc.out.2 g e).2 (.inr (gz g (Nat.le_trans LG.out.2 (World.ownsRow.lt OGc.out.2 g e).1))))⟩
  have XGe : Hid (RowAt w14 XG 25 #[.string mA, .string pA, .slice a1 q1 c1, .slice a2 q2 c2, .string bA]) := (kk14 XG XGd.out.lt (.inr (gz XG LG.out.1))).trans XGd.out
  have F14 : Hid (FRow w14 T1 9 m (fun i => .string (ts i))) := by
    obtain ⟨cs, q1', q2', q3'⟩ := F13.out
    exact ⟨cs, (kk14 T1 q1'.lt (.inr (by have := L8.out; omega))).trans q1', q2', q3'⟩
  have zd : w8.heap.size ≤ w14.heap.size := Nat.le_trans zc z14
  clear k14 kk14 o14 t14 p14 z14 KMM u0 u1 u2 u3 u4 X13j M13 F13 B5c OGc XGd zc
  go_wp2_with fail
  refine (markStr T1 m m m K1 _ (Nat.le_refl _) _ kb1 hm (by omega) w14 F14.out).mono ?_
  rintro e w15 ⟨rfl, _, hg15⟩
  have B5e : Hid (Below w5.heap.size w5 w15) := B5d.out.grown hg15 B5d.out.size (fun j hj => by cases hj; have := L6.out.1; have := L8.out; omega)
  have gn : ∀ g, BG ≤ g → g ≠ T1 := fun g hg => by have := LG.out.2; have := L8.out; omega
  have OGe : Hid (OwnHp w15 BG (.slice a1 q1 c1) QA ∧ OwnHp w15 BG (.slice a2 q2 c2) HA) := ⟨OGd.out.1.keptB (fun g e => hg15.block g (World.ownsRow.lt OGd.out.1 g e).2 (by simpa using gn g (World.ownsRow.lt OGd.out.1 g e).1)), OGd.out.2.keptB (fun g e => hg15.block g (World.ownsRow.lt OGd.out.2 g e).2 (by simpa using gn g (World.ownsRow.lt OGd.out.2 g e).1))⟩
  have XGf := hid (row_grown XGe.out hg15 (by have := LG.out.1; have := L8.out; simp; omega))
  obtain ⟨K2, hK2⟩ : ∃ K, K = K1 + m := ⟨_, rfl⟩
  rw [← hK2]
  have k2n : ¬ (K2 : Int) < 0 := by omega
  clear hK2 hg15 gn gz F14 B5d OGd XGe zd
  have X12h := hid (X12d.out.below B5e.out X12d.out.lt)
  have y0 := XGf.out.cell 0
  have y1 := XGf.out.cell 1
  have y2 := XGf.out.cell 2
  have y3 := XGf.out.cell 3
  have y4 := XGf.out.cell 4
  have x0 := X12h.out.cell 0
  have x1 := X12h.out.cell 1
  have x2 := X12h.out.cell 2
  have x3 := X12h.out.cell 3
  have x4 := X12h.out.cell 4
  go_wp2_with fail
  refine (KE.out _ a1 c1 a2 c2 s1 d1 s2 d2 (hps_own OGe.out.1 HL.out.1) (hps_own OGe.out.2 HL.out.2.1) (S5.out.1.below B5e.out) (S5.out.2.below B5e.out)).mono ?_
  rintro e w16 ⟨rfl, hb16⟩
  have B5f : Hid (Below w5.heap.size w5 w16) := B5e.out.trans (hb16.mono B5e.out.size)
  have OGf : Hid (OwnHp w16 BG (.slice a1 q1 c1) QA ∧ OwnHp w16 BG (.slice a2 q2 c2) HA) := ⟨OwnHp.next hb16 OGe.out.1, OwnHp.next hb16 OGe.out.2⟩
  have XGg := hid (RowAt.nxS hb16 XGf.out)
  clear hb16 B5e OGe XGf X12h y0 y1 y2 y3 y4 x0 x1 x2 x3 x4
  obtain ⟨kq, hkq⟩ : ∃ k : Nat, k = 1 + 2 * q1 + 2 * q2 := ⟨_, rfl⟩
  have KM : Hid (∀ wx, OwnHp wx BG (.slice a1 q1 c1) QA → OwnHp wx BG (.slice a2 q2 c2) HA → Calls Tryz.prog 24 #[.agg #[.string mA, .string pA, .slice a1 q1 c1, .slice a2 q2 c2, .string bA], .int .i64 1] wx fun e w' => e = .returned (.int .i64 (kq : Int)) ∧ Mk2 w' a1 q1 a2 q2 1 ∧ Fr2 wx w' (.slice a1 q1 c1) (.slice a2 q2 c2)) := by
    intro wx h1 h2
    have dj := DJ.out
    obtain ⟨e1, e2, l1, l2⟩ := HL.out
    subst hkq e1 e2
    exact markRq mA pA a1 c1 a2 c2 bA wx BG 1 QA HA l1 l2 (by omega) (by omega) h1 h2 dj
  have KH : Hid (∀ wx, Mk2 wx a1 q1 a2 q2 1 → Calls Tryz.prog 26 #[.agg #[.string mA, .string pA, .slice a1 q1 c1, .slice a2 q2 c2, .string bA], .int .i64 1] wx fun e w' => e = .returned (.int .i64 (kq : Int)) ∧ Below wx.heap.size wx w') := by
    intro wx h1
    obtain ⟨e1, e2, l1, l2⟩ := HL.out
    subst hkq
    exact heldRq mA pA a1 q1 c1 a2 q2 c2 bA wx 1 (by omega) (by omega) (by omega) (by omega) h1
  have kqn : ¬ (kq : Int) < 0 := by omega
  have kqe : ((kq : Int) != (kq : Int)) = false := by simp
  clear hkq
  have y0 := XGg.out.cell 0
  have y1 := XGg.out.cell 1
  have y2 := XGg.out.cell 2
  have y3 := XGg.out.cell 3
  have y4 := XGg.out.cell 4
  go_wp2_with fail
  refine (KM.out _ OGf.out.1 OGf.out.2).mono ?_
  rintro e w17 ⟨rfl, hm17, hf17⟩
  have XGh : Hid (RowAt w17 XG 25 #[.string mA, .string pA, .slice a1 q1 c1, .slice a2 q2 c2, .string bA]) := (hf17.block XG XGg.out.lt (fun e => OwnHp.neRowS OGf.out.1 XGg.out (by decide) e.symm) (fun e => OwnHp.neRowS OGf.out.2 XGg.out (by decide) e.symm)).trans XGg.out
  have z58 : w5.heap.size ≤ w8.heap.size := by have := L6.out.1; have := L8.out; omega
  have B5g : Hid (Below w5.heap.size w5 w17) := ⟨hf17.os.trans B5f.out.os, hf17.tape.trans B5f.out.tape, hf17.output.trans B5f.out.output, Nat.le_trans B5f.out.size hf17.size, fun j hj => (hf17.block j (Nat.lt_of_lt_of_le hj B5f.out.size) (fun e => by have := (World.ownsRow.lt OGf.out.1 j e).1; have := LG.out.2; omega) (fun e => by have := (World.ownsRow.lt OGf.out.2 j e).1; have := LG.out.2; omega)).trans (B5f.out.block j hj)⟩
  have M17 := hid hm17
  clear hm17 hf17 B5f OGf XGg y0 y1 y2 y3 y4 z58
  have y0 := XGh.out.cell 0
  have y1 := XGh.out.cell 1
  have y2 := XGh.out.cell 2
  have y3 := XGh.out.cell 3
  have y4 := XGh.out.cell 4
  go_wp2_with fail
  refine (KH.out _ M17.out).mono ?_
  rintro e w18 ⟨rfl, hb18⟩
  have XGi := hid (RowAt.nxS hb18 XGh.out)
  have M18 := hid (M17.out.below hb18)
  have B5h : Hid (Below w5.heap.size w5 w18) := B5g.out.trans (hb18.mono B5g.out.size)
  have B18 : Hid (Below w.heap.size w w18) := B5.out.trans (B5h.out.mono B5.out.size)
  clear hb18 XGh M17 B5g y0 y1 y2 y3 y4
  have X5k := hid (X5d.out.below B5h.out X5d.out.lt)
  have X6k := hid (X6d.out.below B5h.out X6d.out.lt)
  go_upto_region 34 with fail
  refine lg34_wp w18 w.heap.size (w.heap.size + 1) r id sec tA m mc ts nw ls mA pA bA q1 q2 QA HA w18 (Below.refl _ _) X5k.out X6k.out (fun wx hb => KR.out wx (B18.out.trans (hb.mono B18.out.size))) KK.out (fun wx hb => (KT.out wx (B18.out.trans (hb.mono B18.out.size))).mono (fun e w' q => ⟨q.1, q.2.1.strs, q.2.2⟩)) (fun wx r3 T3 hb he hm1 hs1 => KI.out wx r3 T3 (B18.out.trans (hb.mono B18.out.size)) he hm1.in hs1) ?_
  intro rT TT b1 e1 b2 e2 BH XH w19 hB19 _ _ hAN hXA _ _ _ _
  have B5i : Hid (Below w5.heap.size w5 w19) := B5h.out.trans (hB19.mono B5h.out.size)
  have XGj := hid (RowAt.nxS hB19 XGi.out)
  have M19 := hid (M18.out.below hB19)
  have S19 : Hid (Hps w19 b1 q1 e1 (hAt QA) ∧ Hps w19 b2 q2 e2 (hAt HA)) := ⟨hps_own hAN.1 HL.out.1, hps_own hAN.2.1 HL.out.2.1⟩
  have XHa := hid hXA.1
  clear hB19 hAN hXA XGi M18 B5h B18 X5k X6k
  have X12k := hid (X12d.out.below B5i.out X12d.out.lt)
  have y0 := XHa.out.cell 0
  have y1 := XHa.out.cell 1
  have y2 := XHa.out.cell 2
  have y3 := XHa.out.cell 3
  have y4 := XHa.out.cell 4
  have x0 := X12k.out.cell 0
  have x1 := X12k.out.cell 1
  have x2 := X12k.out.cell 2
  have x3 := X12k.out.cell 3
  have x4 := X12k.out.cell 4
  go_wp2_with fail
  refine (KE.out _ b1 e1 b2 e2 s1 d1 s2 d2 S19.out.1 S19.out.2 (S5.out.1.below B5i.out) (S5.out.2.below B5i.out)).mono ?_
  rintro e w20 ⟨rfl, hb20⟩
  have XGk := hid (RowAt.nxS hb20 XGj.out)
  have M20 := hid (M19.out.below hb20)
  have B20 : Hid (Below w.heap.size w w20) := B5.out.trans ((B5i.out.trans (hb20.mono B5i.out.size)).mono B5.out.size)
  clear hb20 XGj M19 B5i y0 y1 y2 y3 y4 x0 x1 x2 x3 x4 S19 XHa X12k
  have y0 := XGk.out.cell 0
  have y1 := XGk.out.cell 1
  have y2 := XGk.out.cell 2
  have y3 := XGk.out.cell 3
  have y4 := XGk.out.cell 4
  go_wp2_with fail
  refine (KH.out _ M20.out).mono ?_
  rintro e w21 ⟨rfl, hb21⟩
  have B21 : Hid (Below w.heap.size w w21) := B20.out.trans (hb21.mono B20.out.size)
  clear hb21 y0 y1 y2 y3 y4
  go_wp2
  go_ret
  exact ⟨rfl, B21.out⟩
end Go.Proofs.YtcfahbcpfjhajaaGreatDoor
namespace Go.Proofs.YtcfahbcpfjhajaaGreatDoor
open Go.RowKit
/-! Requests, and pairs of texts, as a row hands them in. -/
instance : Inhabited Hp := ⟨hp0⟩
theorem arr5 {α : Type} {cs : Array α} (h : cs.size = 5) : ∃ a b c d e, cs = #[a, b, c, d, e] := by
  match cs with
  | ⟨[a, b, c, d, e]⟩ => exact ⟨a, b, c, d, e, rfl⟩
section
variable {H : Type} {enc : TypeId × Value → H} {P : Program} {w : World} {base : Nat} {spare : Nat → Bool} {held : Bool}
structure HpTy (P : Program) (e : TypeId) : Prop where
  st : ∃ f0 f1 : Field, P.underlying e = some (.struct #[f0, f1]) ∧ (f0.offset = 0 ∧ f1.offset = 1) ∧ (P.cellsOf f0.type = 1 ∧ P.cellsOf f1.type = 1) ∧ P.underlying f0.type = some .string ∧ P.underlying f1.type = some .string
  ce : P.cellsOf e = 2
structure RqTy (P : Program) (e : TypeId) : Prop where
  st : ∃ f0 f1 f2 f3 f4 : Field, P.underlying e = some (.struct #[f0, f1, f2, f3, f4]) ∧ (f0.offset = 0 ∧ f1.offset = 1 ∧ f2.offset = 2 ∧ f3.offset = 3 ∧ f4.offset = 4) ∧ (P.cellsOf f0.type = 1 ∧ P.cellsOf f1.type = 1 ∧ P.cellsOf f2.type = 1 ∧ P.cellsOf f3.type = 1 ∧ P.cellsOf f4.type = 1) ∧ P.underlying f0.type = some .string ∧ P.underlying f1.type = some .string ∧ (∃ c, P.underlying f2.type = some (.slice c) ∧ HpTy P c) ∧ (∃ c, P.underlying f3.type = some (.slice c) ∧ HpTy P c) ∧ P.underlying f4.type = some .string
theorem addH (b off : Nat) (i : Nat) : (⟨b, off, none⟩ : Addr).add i = ⟨b, off + i, none⟩ := by unfold Addr.add; split <;> simp_all
theorem open_hps {t e : TypeId} {fuel : Nat} {cs : List Value} {x : DataW H × List MemPlace} (ht : P.underlying t = some (.slice e)) (hE : HpTy P e) (h : DataW.trod enc P w base spare held fuel t cs = some x) :
    ∃ s : PS, cs = [.slice s.ad s.n s.cap] ∧ Hps w s.ad s.n s.cap s.o ∧ PSB s maxLen := by
  obtain ⟨⟨f0, f1, he, ⟨o0, o1⟩, ⟨c0, c1⟩, u0, u1⟩, ce⟩ := hE
  rcases Go.Deep.open_slice ht h with ⟨h0, _⟩ | ⟨a, len, cap, m, n, D, Pl, rfl, hb, hl, hm, hmm, rfl, hx⟩
  · exact ⟨⟨none, 0, 0, fun _ => hp0⟩, h0, ⟨Nat.le_refl _, .inl rfl⟩, Nat.zero_le _, fun i hi => absurd hi (by simp)⟩
  have hlm : len ≤ m := by rw [hmm]; split <;> omega
  have each : ∀ i, i < len → ∃ q : Hp, (w.cell? (a.add (i * 2)) = some (.string q.nm) ∧ w.cell? (a.add (i * 2 + 1)) = some (.string q.vl)) ∧ q.nm.size ≤ maxLen ∧ q.vl.size ≤ maxLen := by
    intro i hi
    obtain ⟨cs', h1, h2⟩ := hx i (by omega)
    rw [ce] at h1
    obtain ⟨_, hlen, hcell⟩ := World.cells?_some h1
    obtain ⟨xs, n', _, _, _, hxs, hf⟩ := DataW.trod_struct he h2
    match xs, hxs with
    | [y0, y1], _ =>
      have g0 := hf 0 f0 rfl
      have g1 := hf 1 f1 rfl
      match cs', hlen with
      | [v0, v1], _ =>
        simp [o0, o1, c0, c1] at g0 g1
        obtain ⟨nm, e0, _, l0⟩ := DataW.trod_string u0 g0
        obtain ⟨vl, e1, _, l1⟩ := DataW.trod_string u1 g1
        simp at e0 e1
        have z0 := hcell 0 (by omega)
        have z1 := hcell 1 (by omega)
        rw [Go.Deep.add_add] at z0 z1
        exact ⟨⟨nm, vl⟩, ⟨by simpa [e0] using z0, by simpa [e1] using z1⟩, l0, l1⟩
  obtain ⟨o, ho⟩ := Go.Deep.choose_lt each
  refine ⟨⟨some a, len, cap, o⟩, rfl, ⟨hl, ?_⟩, by show len ≤ maxLen; omega, fun i hi => (ho i hi).2⟩
  by_cases h0 : len = 0
  · exact .inl h0
  · right
    obtain ⟨b, off, spot⟩ := a
    have hc := (ho 0 (by omega)).1.1
    have hspot : spot = none := by simpa [Addr.add] using World.cell?_spot hc
    subst hspot
    refine ⟨b, off, rfl, ?_, fun i hi => ?_⟩
    · have := World.block_lt_of_cell? w _ hc; rw [addH] at this; exact this
    · obtain ⟨q0, q1⟩ := (ho i hi).1
      rw [addH] at q0 q1
      exact ⟨q0, by rw [Nat.add_assoc]; exact q1⟩
theorem open_rq {t : TypeId} {fuel : Nat} {v0 v1 v2 v3 v4 : Value} {x : DataW H × List MemPlace} (hE : RqTy P t) (h : DataW.trod enc P w base spare held fuel t [v0, v1, v2, v3, v4] = some x) :
    ∃ r : Rq, (v0 = .string r.mt ∧ v1 = .string r.pt ∧ v2 = .slice r.qs.ad r.qs.n r.qs.cap ∧ v3 = .slice r.hs.ad r.hs.n r.hs.cap ∧ v4 = .string r.bd) ∧ RqIn w r ∧ RqB r 9223372036854775807 := by
  obtain ⟨f0, f1, f2, f3, f4, he, ⟨o0, o1, o2, o3, o4⟩, ⟨c0, c1, c2, c3, c4⟩, u0, u1, ⟨ca, u2, ua⟩, ⟨cb, u3, ub⟩, u4⟩ := hE.st
  obtain ⟨xs, n', _, _, _, hxs, hf⟩ := DataW.trod_struct he h
  match xs, hxs with
  | [y0, y1, y2, y3, y4], _ =>
    have g0 := hf 0 f0 rfl
    have g1 := hf 1 f1 rfl
    have g2 := hf 2 f2 rfl
    have g3 := hf 3 f3 rfl
    have g4 := hf 4 f4 rfl
    simp [o0, o1, o2, o3, o4, c0, c1, c2, c3, c4] at g0 g1 g2 g3 g4
    obtain ⟨mt, e0, _, l0⟩ := DataW.trod_string u0 g0
    obtain ⟨pt, e1, _, l1⟩ := DataW.trod_string u1 g1
    obtain ⟨s2, e2, i2, b2⟩ := open_hps u2 ua g2
    obtain ⟨s3, e3, i3, b3⟩ := open_hps u3 ub g3
    obtain ⟨bd, e4, _, l4⟩ := DataW.trod_string u4 g4
    simp at e0 e1 e2 e3 e4
    have hM : maxLen = 9223372036854775807 := rfl
    rw [hM] at l0 l1 l4 b2 b3
    exact ⟨⟨mt, pt, s2, s3, bd⟩, ⟨e0, e1, e2, e3, e4⟩, ⟨i2, i3⟩, ⟨l0, l1, b2, b3, l4⟩⟩
end
end Go.Proofs.YtcfahbcpfjhajaaGreatDoor
namespace Go.Proofs.YtcfahbcpfjhajaaGreatDoor
open Go.RowKit
theorem arr2 {α : Type} {cs : Array α} (h : cs.size = 2) : ∃ a b, cs = #[a, b] := by
  match cs with
  | ⟨[a, b]⟩ => exact ⟨a, b, rfl⟩
theorem fnExactSignRequest_walk {w : World} (hT : TB w) (r : Rq) (h : RqIs w r) (id : ByteArray) (hi : id.size ≤ maxLen) (sec : ByteArray) (hs : sec.size ≤ maxLen) (a : Option Addr) (len cap : Nat) (ts : Nat → ByteArray) (hS : IsStrs w a len cap ts) (nw : Int) (_wn : (Lit.int .i64 nw).wf = true) (ls : Int) (_wl : (Lit.int .i64 ls).wf = true) :
    Calls Tryz.prog 5 #[.agg #[.string r.mt, .string r.pt, .slice r.qs.ad r.qs.n r.qs.cap, .slice r.hs.ad r.hs.n r.hs.cap, .string r.bd], .agg #[.string id, .string sec], .slice a len cap, .int .i64 nw, .int .i64 ls] w fun e w' => e = .returned (.bool true) ∧ Below w.heap.size w w' :=
  fnExactSignRequest_of r id sec hi hs a len cap ts nw ls hT h (Strs.of_is hS) hS.len.1 hS.len.2
end Go.Proofs.YtcfahbcpfjhajaaGreatDoor
