import Derived.Test.YtmjolkagkeonfaaGreatDoorDrawRp
import Derived.Test.YtmjolkagkeonfaaGreatDoorLwSt
import Derived.Test.YtmjolkagkeonfaaGreatDoorWrB
import Derived.Test.YtmjolkagkeonfaaGreatDoorG18
import Derived.Test.YtmjolkagkeonfaaGreatDoorSRp3
namespace Go.Proofs.YtmjolkagkeonfaaGreatDoor
open Go.RowKit
set_option linter.unusedVariables false
/-! FnPolicies. -/
/-- what was read, against the statements that it stands for -/
theorem PolR.like {w : World} {B : Nat} {v : Value} {L : List PS} {Rs : List St} {X : Nat → Nat} (h : PolR w B v L Rs X) (hl : L.length ≤ 50) (hb : ∀ i, i < L.length → psB (psA L i)) : ∃ a c, v = .slice a L.length c ∧ Sts w a L.length c (stA Rs) ∧ (∀ k, k < L.length → StB (stA Rs k) 1048576) ∧ ∀ k, k < L.length → ∃ lo hi, PsAt w lo hi (stA Rs k) (psA L k) := by
  obtain ⟨a, c, rfl⟩ := h.own.slice
  have hn := h.len
  refine ⟨a, c, by rw [hn], ?_, fun k hk => (h.at_ k hk).stB (hb k hk), fun k hk => ⟨_, _, h.at_ k hk⟩⟩
  rw [← hn]
  exact h.own.sts fun k hk => (h.at_ k (by omega)).in
theorem atB_congr {n : Nat} {ts : Nat → ByteArray} {f : Nat → ByteArray} (h : f = atB (tsL ts n)) : ∀ i, i < n → f i = ts i := fun i hi => by rw [h, tsL_at hi]
theorem plV_z {m : Nat} {R : Nat → St} : plV m R = 0 ↔ plP m R := by
  unfold plV
  by_cases h : plP m R
  · rw [pb_t h]; simp [h]
  · rw [pb_f h]; simp [h]
theorem psA_rw {R : Nat → St} {m k : Nat} (h : k < m) : psA (rwL R m) k = psO (R k) := by simp [psA, rwL, List.getD_eq_getElem?_getD, h]
theorem rwL_len (R : Nat → St) (m : Nat) : (rwL R m).length = m := by simp [rwL]
/-- alike as far as they go -/
structure StLk (s s' : St) : Prop where
  ef : s.ef = s'.ef
  n1 : s.wo.n = s'.wo.n
  t1 : ∀ i, i < s.wo.n → s.wo.ts i = s'.wo.ts i
  n2 : s.wa.n = s'.wa.n
  t2 : ∀ i, i < s.wa.n → s.wa.ts i = s'.wa.ts i
  n3 : s.wi.n = s'.wi.n
  t3 : ∀ i, i < s.wi.n → s.wi.ts i = s'.wi.ts i
  n4 : s.cs.n = s'.cs.n
  o4 : ∀ i, i < s.cs.n → s.cs.o i = s'.cs.o i
theorem PsAt.lk {w : World} {lo hi : Nat} {s s' : St} (h : PsAt w lo hi s (psO s')) : StLk s s' := by
  obtain ⟨n1, n2, n3, n4⟩ := h.lens
  have e1 : s.wo.n = s'.wo.n := n1.trans (tsL_len _ _)
  have e2 : s.wa.n = s'.wa.n := n2.trans (tsL_len _ _)
  have e3 : s.wi.n = s'.wi.n := n3.trans (tsL_len _ _)
  have e4 : s.cs.n = s'.cs.n := n4.trans (csL_len _ _)
  exact ⟨h.ef, e1, fun i hi => by rw [h.t1]; exact tsL_at (by omega), e2, fun i hi => by rw [h.t2]; exact tsL_at (by omega), e3, fun i hi => by rw [h.t3]; exact tsL_at (by omega), e4, fun i hi => by rw [h.o4]; exact csL_at (by omega)⟩
/-- the same statement, its texts told by others' -/
def stT (s s' : St) : St := ⟨s.ef, ⟨s.wo.ad, s.wo.n, s.wo.cap, s'.wo.ts⟩, ⟨s.wa.ad, s.wa.n, s.wa.cap, s'.wa.ts⟩, ⟨s.wi.ad, s.wi.n, s.wi.cap, s'.wi.ts⟩, ⟨s.cs.ad, s.cs.n, s.cs.cap, s'.cs.o⟩⟩
theorem Strs.cg {w : World} {a : Option Addr} {n c : Nat} {ts ts' : Nat → ByteArray} (h : Strs w a n c ts) (e : ∀ i, i < n → ts i = ts' i) : Strs w a n c ts' := by
  refine ⟨h.1, ?_⟩
  rcases h.2 with h0 | ⟨b, off, he, hl, hc⟩
  · exact .inl h0
  · exact .inr ⟨b, off, he, hl, fun i hi => by rw [← e i hi]; exact hc i hi⟩
theorem Cns.cg {w : World} {a : Option Addr} {n c : Nat} {ts ts' : Nat → Cn} (h : Cns w a n c ts) (e : ∀ i, i < n → ts i = ts' i) : Cns w a n c ts' := by
  refine ⟨h.1, ?_⟩
  rcases h.2 with h0 | ⟨b, off, he, hl, hc⟩
  · exact .inl h0
  · exact .inr ⟨b, off, he, hl, fun i hi => by rw [← e i hi]; exact hc i hi⟩
theorem Sts.tw {w : World} {a : Option Addr} {m c : Nat} {R R' : Nat → St} (h : Sts w a m c R) (e : ∀ k, k < m → StLk (R k) (R' k)) : Sts w a m c (fun k => stT (R k) (R' k)) := by
  refine ⟨h.1, ?_, fun k hk => ⟨(h.2.2 k hk).wo.cg (e k hk).t1, (h.2.2 k hk).wa.cg (e k hk).t2, (h.2.2 k hk).wi.cg (e k hk).t3, (h.2.2 k hk).cs.cg (e k hk).o4⟩⟩
  rcases h.2.1 with h0 | ⟨b, off, he, hl, hc⟩
  · exact .inl h0
  · exact .inr ⟨b, off, he, hl, fun k hk => hc k hk⟩
theorem stB_tw {R R' : Nat → St} {m : Nat} (h : ∀ k, k < m → StB (R k) 1048576) (e : ∀ k, k < m → StLk (R k) (R' k)) : ∀ k, k < m → StB (stT (R k) (R' k)) 1048576 := fun k hk =>
  ⟨⟨(h k hk).wo.1, fun i hi => by have := (h k hk).wo.2 i hi; rw [(e k hk).t1 i hi] at this; exact this⟩, ⟨(h k hk).wa.1, fun i hi => by have := (h k hk).wa.2 i hi; rw [(e k hk).t2 i hi] at this; exact this⟩, ⟨(h k hk).wi.1, fun i hi => by have := (h k hk).wi.2 i hi; rw [(e k hk).t3 i hi] at this; exact this⟩, ⟨(h k hk).cs.1, fun i hi => by have := (h k hk).cs.2 i hi; rw [(e k hk).o4 i hi] at this; exact this⟩⟩
/-- lwStatements of what was read and of the statements that it stands for -/
theorem lw_back {w : World} {B : Nat} {v : Value} {m : Nat} {R : Nat → St} {a : Option Addr} {c : Nat} (h : PolAt w B v (rwL R m)) (hm : m ≤ 50) (hR : Sts w a m c R) (hB : ∀ i, i < m → psB (psA (rwL R m) i)) :
    Calls Tryz.prog 12 #[v, .slice a m c] w fun e w' => e = .returned (.bool true) ∧ Below w.heap.size w w' := by
  obtain ⟨Rs, X, h⟩ := h
  obtain ⟨a1, c1, rfl, hS, hSB, hA⟩ := h.like (by rw [rwL_len]; exact hm) (fun i hi => hB i (by rw [rwL_len] at hi; exact hi))
  rw [rwL_len] at hS hSB hA ⊢
  have lk : ∀ k, k < m → StLk (stA Rs k) (R k) := fun k hk => by
    obtain ⟨lo, hi, q⟩ := hA k hk
    rw [psA_rw hk] at q
    exact q.lk
  exact lwSts_eq a1 m c1 a c _ R w (hS.tw lk) hR (by omega) (stB_tw hSB lk) fun k hk => ⟨(lk k hk).ef, (lk k hk).n1, rfl, (lk k hk).n2, rfl, (lk k hk).n3, rfl, (lk k hk).n4, rfl⟩
theorem lw_both {w : World} {B B' : Nat} {v v' : Value} {L : List PS} (h : PolAt w B v L) (h' : PolAt w B' v' L) (hl : L.length ≤ 50) (hb : ∀ i, i < L.length → psB (psA L i)) :
    Calls Tryz.prog 12 #[v, v'] w fun e w' => e = .returned (.bool true) ∧ Below w.heap.size w w' := by
  obtain ⟨Rs, X, h⟩ := h
  obtain ⟨Rs', X', h'⟩ := h'
  obtain ⟨a1, c1, rfl, hS, hSB, hA⟩ := h.like hl hb
  obtain ⟨a2, c2, rfl, hS', hSB', hA'⟩ := h'.like hl hb
  exact lwSts_eq a1 L.length c1 a2 c2 _ _ w hS hS' (by omega) hSB fun k hk => by
    obtain ⟨_, _, q⟩ := hA k hk
    obtain ⟨_, _, q'⟩ := hA' k hk
    exact q.eq q'
set_option maxRecDepth 20000 in
set_option maxHeartbeats 8000000 in
theorem fnPolicies_small (a : Option Addr) (len cap : Nat) (w : World) (hv : RdV w) (hc : CodeOk w a len) (hlc : len ≤ cap) (hlen : len ≤ 1048576) :
    Calls Tryz.prog 3 #[.slice a len cap] w fun e w' => e = .returned (.bool true) ∧ Below w.heap.size w w' := by
  have d0 : ¬ (1048576 : Int) < (len : Int) := by omega
  have HV := hid hv
  have HC := hid hc
  clear hv hc
  go_enter Tryz.func3, Tryz.ntmps3
  go_wp2_with fail
  refine (drawWP_all w a len cap HC.out hlc).mono ?_
  rintro e w1 ⟨⟨v, rfl, hD⟩, hb1⟩
  obtain ⟨a1, m, cap1, R, rfl, hS, hB, hm, hn⟩ := hD.ex
  have HS := hid hS
  have HB := hid hB
  have B1 := hid hb1
  clear hS hB hb1 hD hn d0
  have KIW := fun wx (hx : Below w1.heap.size w1 wx) => hid (iWr a1 m cap1 R (by omega) HB.out wx (HV.out.below (B1.out.trans (hx.mono B1.out.size))).tb (HS.out.below hx))
  have KSW := fun wx (hx : Below w1.heap.size w1 wx) => hid (sWr a1 m cap1 R (by omega) HB.out wx (HS.out.below hx))
  have KIP := fun wx (hx : Below w1.heap.size w1 wx) => hid (iPolF a1 m cap1 R (by omega) HB.out wx (HS.out.below hx))
  have KSP := fun wx (hx : Below w1.heap.size w1 wx) => hid (sPolF a1 m cap1 R (by omega) HB.out wx (HS.out.below hx))
  obtain ⟨PV, hPV⟩ : ∃ v, v = plV m R := ⟨_, rfl⟩
  have HPV := hid (hPV ▸ plV_z (m := m) (R := R))
  rw [← hPV] at KIP KSP
  clear hPV
  go_wp2_with fail
  refine (KIW w1 (Below.refl _ _)).out.mono ?_
  rintro e w2 ⟨⟨t, rfl, ht⟩, hb2⟩
  have B2 := hid hb2
  have HT := hid ht
  clear hb2 ht
  go_wp2_with fail
  refine (KSW w2 B2.out).out.mono ?_
  rintro e w3 ⟨⟨t', rfl, ht'⟩, hb3⟩
  obtain rfl : t = t' := ba_extL (HT.out.trans ht'.symm)
  have B3 : Hid (Below w1.heap.size w1 w3) := B2.out.trans (hb3.mono B2.out.size)
  clear hb3 ht' B2
  have dt : (t.toList != t.toList) = false := by simp
  have dp : (PV != PV) = false := by simp
  go_wp2_with fail
  refine (KIP w3 B3.out).out.mono ?_
  rintro e w4 ⟨rfl, hb4⟩
  have B4 : Hid (Below w1.heap.size w1 w4) := B3.out.trans (hb4.mono B3.out.size)
  clear hb4 B3
  go_wp2_with fail
  refine (KSP w4 B4.out).out.mono ?_
  rintro e w5 ⟨rfl, hb5⟩
  have B5 : Hid (Below w1.heap.size w1 w5) := B4.out.trans (hb5.mono B4.out.size)
  clear hb5 B4
  go_upto_region 7 with fail
  go_cut [38] from 27 to 38 (fun y wx => (∃ b : Bool, y = .bool b ∧ (b = true → PV = 0 ∧ (t.size ≠ 0 ∨ m = 0))) ∧ Below w1.heap.size w1 wx)
  case first =>
    go_wp2_with fail
    refine (KSP w5 B5.out).out.mono ?_
    rintro e w6 ⟨rfl, hb6⟩
    have B6 : Hid (Below w1.heap.size w1 w6) := B5.out.trans (hb6.mono B5.out.size)
    clear hb6 B5 KSP KIP KSW KIW HPV HT
    by_cases p0 : PV = 0
    case neg =>
      have dp0 : (PV == 0) = false := beq_eq_false_iff_ne.2 p0
      go_wp2_with fail
      go_meet
      exact ⟨⟨false, rfl, fun e => by cases e⟩, B6.out⟩
    subst p0
    by_cases ts : t.size = 0
    · have et : t = ⟨#[]⟩ := ByteArray.ext (Array.eq_empty_of_size_eq_zero ts)
      clear ts dt
      subst et
      by_cases m0 : m = 0
      · have dm : ((m : Int) == 0) = true := by simp [m0]
        have M0 := hid m0
        clear m0
        go_wp2_with fail
        go_meet
        exact ⟨⟨true, rfl, fun _ => ⟨by trivial, .inr M0.out⟩⟩, B6.out⟩
      · have dm : ((m : Int) == 0) = false := beq_eq_false_iff_ne.2 (by omega)
        go_wp2_with fail
        go_meet
        exact ⟨⟨false, rfl, fun e => by cases e⟩, B6.out⟩
    · have dts : t.toList.isEmpty = false := by rw [emptyL]; simp [ts]
      have dts2 : (t.toList == []) = false := by cases h : t.toList <;> simp_all
      go_wp2_with fail
      go_meet
      exact ⟨⟨true, rfl, fun _ => ⟨by trivial, .inl ts⟩⟩, B6.out⟩
  case rest =>
  obtain ⟨⟨g, rfl, hg⟩, hb7⟩ := hcut
  obtain ⟨W7, rfl⟩ : ∃ v, v = wc := ⟨_, rfl⟩
  have B7 := hid hb7
  have HG := hid hg
  clear hb7 hg B5 KSP KIP KSW KIW dt dp
  have BW : Hid (∀ wx, Below w1.heap.size w1 wx → Below w.heap.size w wx) := fun wx hx => B1.out.trans (hx.mono B1.out.size)
  go_upto_if 38 with fail
  go_cut [] from 39 to 50 (fun wx => Below w1.heap.size w1 wx)
  case first =>
    cases g with
    | false =>
      go_wp2_with fail
      go_meet
      exact B7.out
    | true =>
      obtain ⟨p0, tn⟩ := HG.out rfl
      have PL := HPV.out.1 p0
      obtain ⟨tl, t10⟩ := wr_none HT.out PL tn
      have PO := hid (wr_back PL tl t10)
      have KR := hid (iReadP t (by have := baLen t; rw [tl] at this; omega) W7 (HV.out.below (BW.out _ B7.out)))
      have LB := hid (polB t)
      clear PL tl t10 tn p0 HPV HT HG
      go_wp2_with fail
      refine KR.out.mono ?_
      rintro e w8 ⟨v8, rfl, hP8, hb8⟩
      have B8 : Hid (Below w1.heap.size w1 w8) := B7.out.trans (hb8.mono B7.out.size)
      rw [PO.out] at hP8 LB ⊢
      dsimp only at hP8 LB ⊢
      have P8 := hid hP8
      clear hP8 hb8 KR PO
      obtain ⟨W9, hW9⟩ : ∃ W, W = w8.alloc (.cells #[.int .i64 0, .int .i64 0, v8] 28) := ⟨_, rfl⟩
      have b9 : Hid (Below w8.heap.size w8 W9) := by rw [hW9]; exact (Below.refl _ _).alloc (Nat.le_refl _) _
      have B9 : Hid (Below w1.heap.size w1 W9) := B8.out.trans (b9.out.mono B8.out.size)
      have R9 : Hid (RowAt W9 w8.heap.size 28 #[.int .i64 0, .int .i64 0, v8]) := by rw [hW9]; exact RowAt.new _ _ _
      have K9 := hid (lw_back (P8.out.below b9.out) hm (HS.out.below B9.out) (fun i hi => LB.out.2 i (by rw [rwL_len]; exact hi)))
      obtain ⟨x8, c8, rfl⟩ : ∃ x c, v8 = .slice x m c := by
        obtain ⟨Rs, X, hq⟩ := P8.out
        obtain ⟨x, c, hx⟩ := hq.own.slice
        exact ⟨x, c, by rw [hx, hq.len, rwL_len]⟩
      go_upto_region 9 with fail
      rw [← hW9]
      clear hW9
      have c0 := R9.out.cell 0
      have c2 := R9.out.cell 2
      go_wp2_with fail
      refine K9.out.mono ?_
      rintro e w10 ⟨rfl, hb10⟩
      have B10 : Hid (Below w1.heap.size w1 w10) := B9.out.trans (hb10.mono B9.out.size)
      clear hb10 K9 c0 c2
      go_wp2_with fail
      go_meet
      exact B10.out
  case rest =>
  obtain ⟨W11, rfl⟩ : ∃ v, v = wc := ⟨_, rfl⟩
  have B11 := hid (BW.out _ hcut)
  clear hcut B7 BW HG HPV HT HS HB B1
  have KD := hid (drawRP_all W11 a len cap (HC.out.below B11.out) hlc)
  go_wp2_with fail
  refine KD.out.mono ?_
  rintro e w12 ⟨⟨p, rfl, hp⟩, hb12⟩
  have B12 : Hid (Below w.heap.size w w12) := B11.out.trans (hb12.mono B11.out.size)
  clear hb12 KD B11
  have KR := hid (iReadP p (by omega) w12 (HV.out.below B12.out))
  have LB := hid (polB p)
  have KS := fun wx => hid (sReadP p (by omega) wx)
  go_wp2_with fail
  refine KR.out.mono ?_
  rintro e w13 ⟨v13, rfl, hP13, hb13⟩
  have B13 : Hid (Below w.heap.size w w13) := B12.out.trans (hb13.mono B12.out.size)
  have P13 := hid hP13
  clear hb13 hP13 KR B12
  have hx13 : ∃ x n c, v13 = .slice x n c := by
    obtain ⟨Rs, X, hq⟩ := P13.out
    obtain ⟨x, c, hx⟩ := hq.own.slice
    exact ⟨x, _, c, hx⟩
  obtain ⟨x13, n13, c13, rfl⟩ := hx13
  obtain ⟨W14, hW14⟩ : ∃ W, W = w13.alloc (.cells #[.int .i64 (polO p).1, .int .i64 (polO p).2.1, .slice x13 n13 c13] 28) := ⟨_, rfl⟩
  have b14 : Hid (Below w13.heap.size w13 W14) := by rw [hW14]; exact (Below.refl _ _).alloc (Nat.le_refl _) _
  have B14 : Hid (Below w.heap.size w W14) := B13.out.trans (b14.out.mono B13.out.size)
  have R14 : Hid (RowAt W14 w13.heap.size 28 #[.int .i64 (polO p).1, .int .i64 (polO p).2.1, .slice x13 n13 c13]) := by rw [hW14]; exact RowAt.new _ _ _
  have P14 := hid (P13.out.below b14.out)
  go_upto_region 13 with fail
  rw [← hW14]
  clear hW14 b14 B13 P13
  obtain ⟨X14, hX14⟩ : ∃ x, x = w13.heap.size := ⟨_, rfl⟩
  rw [← hX14] at R14 ⊢
  clear hX14
  go_wp2_with fail
  refine (KS W14).out.mono ?_
  rintro e w15 ⟨v15, rfl, hP15, hb15⟩
  have hx15 : ∃ x n c, v15 = .slice x n c := by
    obtain ⟨Rs, X, hq⟩ := hP15
    obtain ⟨x, c, hx⟩ := hq.own.slice
    exact ⟨x, _, c, hx⟩
  obtain ⟨x15, n15, c15, rfl⟩ := hx15
  have b15 := hid hb15
  have P15 := hid hP15
  clear hP15 hb15 KS
  obtain ⟨W16, hW16⟩ : ∃ W, W = w15.alloc (.cells #[.int .i64 (polO p).1, .int .i64 (polO p).2.1, .slice x15 n15 c15] 28) := ⟨_, rfl⟩
  have b16 : Hid (Below w15.heap.size w15 W16) := by rw [hW16]; exact (Below.refl _ _).alloc (Nat.le_refl _) _
  have b17 : Hid (Below W14.heap.size W14 W16) := b15.out.trans (b16.out.mono b15.out.size)
  have B16 : Hid (Below w.heap.size w W16) := B14.out.trans (b17.out.mono B14.out.size)
  have S16 : Hid (RowAt W16 w15.heap.size 28 #[.int .i64 (polO p).1, .int .i64 (polO p).2.1, .slice x15 n15 c15]) := by rw [hW16]; exact RowAt.new _ _ _
  have R16 := hid (R14.out.below b17.out R14.out.lt)
  have K16 := hid (lw_both (P14.out.below b17.out) (P15.out.below b16.out) LB.out.1 LB.out.2)
  go_upto_region 14 with fail
  rw [← hW16]
  clear hW16 b15 b16 b17 B14 R14 P14 P15
  generalize (polO p).1 = pc at R16 S16 ⊢
  generalize (polO p).2.1 = pl at R16 S16 ⊢
  have c0 := R16.out.cell 0
  have c1 := R16.out.cell 1
  have c2 := R16.out.cell 2
  have s0 := S16.out.cell 0
  have s1 := S16.out.cell 1
  have s2 := S16.out.cell 2
  have e0 : (pc == pc) = true := by simp
  have e1 : (pl == pl) = true := by simp
  go_wp2_with fail
  refine K16.out.mono ?_
  rintro e w18 ⟨rfl, hb18⟩
  have B18 : Hid (Below w.heap.size w w18) := B16.out.trans (hb18.mono B16.out.size)
  clear hb18 c0 c1 c2 s0 s1 s2
  go_wp2
  go_ret
  exact ⟨rfl, B18.out⟩
theorem fnPolicies_walk {w : World} (hv : RdV w) (a0 : Option Addr) (len0 cap0 : Nat) (z0 : List Int) (h0 : IsRow .u8 w a0 len0 cap0 z0) :
    Calls Tryz.prog 3 #[.slice a0 len0 cap0] w fun e w' => e = .returned (.bool true) ∧ Below w.heap.size w w' := by
  have m0 := h0.le
  unfold maxLen at m0
  by_cases hl0 : len0 ≤ 1048576
  · exact fnPolicies_small a0 len0 cap0 w hv (codeOk_of w a0 len0 cap0 z0 h0 hl0) m0.1 hl0
  · have d0 : decide ((1048576 : Int) < (len0 : Int)) = true := by simp; omega
    go_enter Tryz.func3, Tryz.ntmps3
    go_wp2
    go_ret
    exact ⟨rfl, Below.refl _ _⟩
end Go.Proofs.YtmjolkagkeonfaaGreatDoor
