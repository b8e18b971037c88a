import Derived.Test.YtefnoeaehglihaaDoorIFind
import Derived.WalkMore
import Derived.ScopeJumps
namespace Go.Proofs.YtefnoeaehglihaaDoor
open Go.RowKit
/-! The program's reader: find. -/
def FindP (s : ByteArray) (p e : Nat) (r : Ending) : Prop :=
  (∃ f, getRec s (f.at' : Nat) = some f ∧ p ≤ f.at' ∧ f.at' < e ∧ (∀ k, p ≤ k → k < f.at' → getRec s (k : Nat) = none) ∧ r = .returned (.tuple #[frmV f, .bool true])) ∨
  ((∀ k, p ≤ k → k < e → getRec s (k : Nat) = none) ∧ r = .returned (.tuple #[frm0, .bool false]))
def z7 : Array Value := #[.int .i64 0, .int .i64 0, .bool false, .int .i64 0, .int .i64 0, .int .i64 0, .int .i64 0]
/-- where the search stands -/
def FSt (base R : Nat) (s : ByteArray) (p e : Nat) (w : World) (ea eb : Addr) (M : Nat → Prop) (q : Nat) (w' : World) : Prop :=
  p ≤ q ∧ q ≤ e ∧ (∀ k, p ≤ k → k < q → getRec s (k : Nat) = none) ∧ Errs w' ea eb ∧ Blk w' w.heap.size z7 56 ∧ ∃ hv pv n m, Tbl base R s w' hv pv n m ∧ Step M w (Mine R hv pv) w' ∧ ¬ Mine R hv pv w.heap.size
theorem getRec_none (s : ByteArray) (p : Int) (h : ¬ Marked s p) : getRec s p = none := by unfold getRec; rw [if_neg h]
theorem getRec_in' (s : ByteArray) (p : Nat) (f : Fr) (h : getRec s (p : Nat) = some f) : f.at' = p := by
  unfold getRec at h
  split at h
  · split at h
    · cases h
    · rename_i g hg
      have := (frm_in s _ g hg).1
      rw [Int.toNat_natCast] at this
      split at h
      · have e := Option.some.inj h
        subst e
        exact this
      · cases h
  · cases h
def intQ : Value → Int | .int _ q => q | _ => 0
theorem step_ne {R : Nat} {w w' : World} {hv pv : Value} {b : Nat} {M' : Nat → Prop} (S : Step (Mine R hv pv) w M' w') (hb : b < w.heap.size) (hn : ¬ Mine R hv pv b) : ¬ M' b := fun q => by
  rcases S.own b q with r | r
  · exact hn r
  · omega
def FindJ (base R : Nat) (s : ByteArray) (p e : Nat) (w : World) (ea eb : Addr) (M : Nat → Prop) (a' : Act) (w' : World) : Prop := ∃ (q : Nat) (u8 u9 u10 u11 u12 u13 u14 u15 u16 u17 u18 u19 u20 u21 u22 u23 u24 u25 u26 u27 u28 u29 u30 u31 u32 u33 : Value), a' = { tmps := #[.pointer (some ⟨R, 0, none⟩), .int .i64 (q : Nat), .int .i64 (e : Nat), undef, undef, undef, .pointer (some ⟨w.heap.size, 0, none⟩), .bool false, u8, u9, u10, u11, u12, u13, u14, u15, u16, u17, u18, u19, u20, u21, u22, u23, u24, u25, u26, u27, u28, u29, u30, u31, u32, u33, undef], defers := [] } ∧ FSt base R s p e w ea eb M q w'
def FindMu (e : Nat) (a' : Act) : Nat := e - (intQ (a'.tmps.getD 1 undef)).toNat
set_option maxRecDepth 20000 in
set_option maxHeartbeats 4000000 in
theorem find_all (base R : Nat) (s : ByteArray) (p e : Nat) (hpe : p ≤ e) (he : e ≤ s.size) (hs : s.size ≤ 400000) (ea eb : Addr) (hlo : ErrsLo R ea eb) (hv pv : Value) (n m : Nat) (w : World) (hE : Errs w ea eb) (T : Tbl base R s w hv pv n m) :
    Calls Tryd.prog 38 #[.pointer (some ⟨R, 0, none⟩), .int .i64 (p : Nat), .int .i64 (e : Nat)] w fun r w' => FindP s p e r ∧ TblE base R s (Mine R hv pv) w w' := by
  have J0 : Hid (FSt base R s p e w ea eb (Mine R hv pv) p (w.alloc (.cells #[.int .i64 0, .int .i64 0, .bool false, .int .i64 0, .int .i64 0, .int .i64 0, .int .i64 0] 56))) :=
    ⟨Nat.le_refl _, hpe, fun k h1 h2 => by omega, hE.below ((Below.refl _ _).alloc (Nat.le_refl _) _), Blk.made w _ _, hv, pv, n, m, T.alloc _, Step.of_below ((Below.refl _ _).alloc (Nat.le_refl _) _), fun q => by have := T.mine_lt q; omega⟩
  clear hE T
  go_enter Tryd.func38, Tryd.ntmps38
  go_wp2
  refine wp_scope_jumps 0 (FindJ base R s p e w ea eb (Mine R hv pv)) (fun a' _ => FindMu e a') rfl ?first ?pass
  case pass =>
    rintro a' w' ⟨q, u8, u9, u10, u11, u12, u13, u14, u15, u16, u17, u18, u19, u20, u21, u22, u23, u24, u25, u26, u27, u28, u29, u30, u31, u32, u33, rfl, h1, h2, h3, hE', hB', hv', pv', n', m', hT, hS, hN⟩
    have HT := hid hT
    have HS := hid hS
    have HN := hid hN
    have H3 := hid h3
    have HE' := hid hE'
    unfold z7 at hB'
    clear hT hS hN h3 hE'
    have zb : w.heap.size < w'.heap.size := hB'.lt
    by_cases hqe : q < e
    case neg =>
      have d0 : decide ((e : Int) ≤ (q : Int)) = true := by simp; omega
      have q0 := hB'.cell 0 _ rfl
      have f0 := hB'.free 0
      have q1 := hB'.cell 1 _ rfl
      have f1 := hB'.free 1
      have q2 := hB'.cell 2 _ rfl
      have f2 := hB'.free 2
      have q3 := hB'.cell 3 _ rfl
      have f3 := hB'.free 3
      have q4 := hB'.cell 4 _ rfl
      have f4 := hB'.free 4
      have q5 := hB'.cell 5 _ rfl
      have f5 := hB'.free 5
      have q6 := hB'.cell 6 _ rfl
      have f6 := hB'.free 6
      have K3 : Hid (∀ k, p ≤ k → k < e → getRec s (k : Nat) = none) := fun k a b => H3.out k a (by omega)
      have d0' : decide (e ≤ q) = true := by simp; omega
      go_wp2
      simp only [Exit.jump]
      refine bodyPost_ret (v := .tuple #[frm0, .bool false]) (by simp [results, Tryd.results38, go_sem, frm0, q0, q1, q2, q3, q4, q5, q6]) rfl ⟨Or.inr ⟨K3.out, rfl⟩, tblE_grown HT.out HS.out ?_ HN.out (Nat.le_refl _)⟩
      exact grown_trans (grown_trans (grown_trans (grown_trans (grown_trans (grown_trans grown_set grown_set) grown_set) grown_set) grown_set) grown_set) grown_set
    have d0 : decide ((e : Int) ≤ (q : Int)) = false := by simp; omega
    have d0' : decide (e ≤ q) = false := by simp; omega
    have RD := fun w hE T => hid (read_all base R s (q : Nat) hs ea eb hv' pv' n' m' w hE hlo T)
    go_wp2_with fail
    refine (RD _ HE'.out HT.out).out.mono ?_
    rintro r w2 ⟨hp, hv2, pv2, n2', m2, T2, S2⟩
    have HT2 := hid T2
    have HS2 : Hid (Step (Mine R hv pv) w (Mine R hv2 pv2) w2) := HS.out.trans S2
    have HN2 : Hid (¬ Mine R hv2 pv2 w.heap.size) := step_ne S2 zb HN.out
    have hB2 := S2.blk hB' HN.out
    have HE2 := hid (HE'.out.step S2 hlo (fun b q => HT.out.mine_lo q))
    have zb2 : w.heap.size < w2.heap.size := hB2.lt
    have r0 : w2.cell? ⟨R, 0, none⟩ = some (.string s) := T2.blk.cell 0 _ rfl
    have Rlt : R < w2.heap.size := T2.blk.lt
    have g0 := HE2.out.mark
    have g1 := HE2.out.bent
    have two := HE2.out.two
    have l0 : 0 < w2.heap.size := by omega
    have l1 : 1 < w2.heap.size := by omega
    clear T2 S2 RD HT HS HN hB' HE'
    rcases hp with ⟨hm, rfl⟩ | ⟨hn, v, ⟨c0, c1, gg, c3, c4, c5, c6, rfl⟩, rfl⟩ | ⟨f, hn, rfl⟩
    · have hb231 : byteAt s q ≠ 231 := fun r => hm ⟨by omega, by omega, by simpa using r⟩
      have NM := fun w h => hid (nextMark_all R s q e (by omega) he (by omega) w h)
      have HB231 := hid hb231
      clear hm hb231
      unfold frm0 errV
      go_wp2_with fail
      refine (errIs_same ea _).mono ?_
      rintro r w3 ⟨rfl, rfl⟩
      go_wp2_with fail
      refine (NM _ ((World.cell?_alloc_past (w := w2) _ R 0 Rlt).trans r0)).out.mono ?_
      rintro r w3 ⟨⟨q2, rfl, n1, n2, n3, n4⟩, rfl⟩
      have q2q : q < q2 := by
        rcases Nat.lt_or_ge q q2 with r | r
        · exact r
        · exact absurd (by rw [show q = q2 by omega]; exact n4 (by omega)) HB231.out
      have Q2 := hid q2q
      have N3 := hid n3
      clear n3 n4 q2q
      go_wp2_with fail
      go_step3
      refine ⟨rfl, ⟨q2, _, _, _, _, _, _, _, _, _, _, _, _, _, _, _, _, _, _, _, _, _, _, _, _, _, _, rfl, by omega, n2, fun k a b => (by by_cases c : k < q; (exact H3.out k a c); exact getRec_none s _ (fun r => N3.out k (by omega) b (by simpa using r.2.2))), HE2.out.below ((Below.refl _ _).alloc (Nat.le_refl _) _), hB2.past zb2 _, hv2, pv2, n2', m2, HT2.out.alloc _, HS2.out.trans (Step.of_below ((Below.refl _ _).alloc (Nat.le_refl _) _)), HN2.out⟩, ?_⟩
      show FindMu e _ < FindMu e _; unfold FindMu; simp [intQ]; have := Q2.out; omega
    · have HG := hid hn
      clear hn
      have wq : IntKind.i64.wrap ((q : Int) + 1) = (q : Int) + 1 := by simp [IntKind.wrap, IntKind.bits, IntKind.signed]; omega
      unfold errV
      go_wp2_with fail
      refine (errIs_other eb ea _ HE2.out.ne.symm (HE2.out.below ((Below.refl _ _).alloc (Nat.le_refl _) _)).rowB (HE2.out.below ((Below.refl _ _).alloc (Nat.le_refl _) _)).rowA).mono ?_
      rintro r w3 ⟨rfl, rfl⟩
      go_wp2_with fail
      refine (errIs_same eb _).mono ?_
      rintro r w3 ⟨rfl, rfl⟩
      go_wp2_with fail
      go_step3
      have cast1 : (q : Int) + 1 = ((q + 1 : Nat) : Int) := by omega
      rw [cast1]
      refine ⟨rfl, ⟨q + 1, _, _, _, _, _, _, _, _, _, _, _, _, _, _, _, _, _, _, _, _, _, _, _, _, _, _, rfl, by omega, by omega, fun k a b => (by by_cases c : k < q; (exact H3.out k a c); (have : k = q := by omega); rw [this]; exact HG.out), HE2.out.below ((Below.refl _ _).alloc (Nat.le_refl _) _), hB2.past zb2 _, hv2, pv2, n2', m2, HT2.out.alloc _, HS2.out.trans (Step.of_below ((Below.refl _ _).alloc (Nat.le_refl _) _)), HN2.out⟩, ?_⟩
      show FindMu e _ < FindMu e _; unfold FindMu; simp [intQ]; omega
    · have HG := hid hn
      have fa := (getRec_in' s q f hn)
      clear hn
      obtain ⟨ka, ks, g, ba, bs, a, n9⟩ := f
      unfold frmV
      simp only at fa ⊢
      subst fa
      go_wp2_with fail
      refine (errIs_nil ea _).mono ?_
      rintro r w3 ⟨rfl, rfl⟩
      go_wp2_with fail
      refine (errIs_nil eb _).mono ?_
      rintro r w3 ⟨rfl, rfl⟩
      have q0 := hB2.cell 0 _ rfl
      have f0 := hB2.free 0
      have q1 := hB2.cell 1 _ rfl
      have f1 := hB2.free 1
      have q2 := hB2.cell 2 _ rfl
      have f2 := hB2.free 2
      have q3 := hB2.cell 3 _ rfl
      have f3 := hB2.free 3
      have q4 := hB2.cell 4 _ rfl
      have f4 := hB2.free 4
      have q5 := hB2.cell 5 _ rfl
      have f5 := hB2.free 5
      have q6 := hB2.cell 6 _ rfl
      have f6 := hB2.free 6
      go_wp2
      simp only [Exit.jump]
      refine bodyPost_ret (v := .tuple #[.agg #[.int .i64 (ka : Nat), .int .i64 (ks : Nat), .bool g, .int .i64 (ba : Nat), .int .i64 (bs : Nat), .int .i64 (a : Nat), .int .i64 (n9 : Nat)], .bool true]) (by simp [results, Tryd.results38, go_sem, zb2, q0, q1, q2, q3, q4, q5, q6]) rfl ⟨Or.inl ⟨⟨ka, ks, g, ba, bs, a, n9⟩, HG.out, h1, hqe, H3.out, rfl⟩, tblE_grown HT2.out HS2.out ?_ HN2.out (Nat.le_refl _)⟩
      exact grown_alloc (grown_trans (grown_trans (grown_trans (grown_trans (grown_trans (grown_trans grown_set grown_set) grown_set) grown_set) grown_set) grown_set) grown_set) _
  case first =>
    obtain ⟨h1, h2, h3, hE', hB', hv', pv', n', m', hT, hS, hN⟩ := J0.out
    obtain ⟨w', hw'⟩ : ∃ w', w' = w.alloc (.cells #[.int .i64 0, .int .i64 0, .bool false, .int .i64 0, .int .i64 0, .int .i64 0, .int .i64 0] 56) := ⟨_, rfl⟩
    rw [← hw'] at hE' hB' hT hS ⊢
    clear hw' J0
    go_wp2_with fail
    go_step3
    have HT := hid hT
    have HS := hid hS
    have HN := hid hN
    have H3 := hid h3
    have HE' := hid hE'
    unfold z7 at hB'
    clear hT hS hN h3 hE'
    have zb : w.heap.size < w'.heap.size := hB'.lt
    by_cases hqe : p < e
    case neg =>
      have d0 : decide ((e : Int) ≤ (p : Int)) = true := by simp; omega
      have q0 := hB'.cell 0 _ rfl
      have f0 := hB'.free 0
      have q1 := hB'.cell 1 _ rfl
      have f1 := hB'.free 1
      have q2 := hB'.cell 2 _ rfl
      have f2 := hB'.free 2
      have q3 := hB'.cell 3 _ rfl
      have f3 := hB'.free 3
      have q4 := hB'.cell 4 _ rfl
      have f4 := hB'.free 4
      have q5 := hB'.cell 5 _ rfl
      have f5 := hB'.free 5
      have q6 := hB'.cell 6 _ rfl
      have f6 := hB'.free 6
      have K3 : Hid (∀ k, p ≤ k → k < e → getRec s (k : Nat) = none) := fun k a b => H3.out k a (by omega)
      have d0' : decide (e ≤ p) = true := by simp; omega
      go_wp2
      simp only [Exit.jump]
      refine bodyPost_ret (v := .tuple #[frm0, .bool false]) (by simp [results, Tryd.results38, go_sem, frm0, q0, q1, q2, q3, q4, q5, q6]) rfl ⟨Or.inr ⟨K3.out, rfl⟩, tblE_grown HT.out HS.out ?_ HN.out (Nat.le_refl _)⟩
      exact grown_trans (grown_trans (grown_trans (grown_trans (grown_trans (grown_trans grown_set grown_set) grown_set) grown_set) grown_set) grown_set) grown_set
    have d0 : decide ((e : Int) ≤ (p : Int)) = false := by simp; omega
    have d0' : decide (e ≤ p) = false := by simp; omega
    have RD := fun w hE T => hid (read_all base R s (p : Nat) hs ea eb hv' pv' n' m' w hE hlo T)
    go_wp2_with fail
    refine (RD _ HE'.out HT.out).out.mono ?_
    rintro r w2 ⟨hp, hv2, pv2, n2', m2, T2, S2⟩
    have HT2 := hid T2
    have HS2 : Hid (Step (Mine R hv pv) w (Mine R hv2 pv2) w2) := HS.out.trans S2
    have HN2 : Hid (¬ Mine R hv2 pv2 w.heap.size) := step_ne S2 zb HN.out
    have hB2 := S2.blk hB' HN.out
    have HE2 := hid (HE'.out.step S2 hlo (fun b p => HT.out.mine_lo p))
    have zb2 : w.heap.size < w2.heap.size := hB2.lt
    have r0 : w2.cell? ⟨R, 0, none⟩ = some (.string s) := T2.blk.cell 0 _ rfl
    have Rlt : R < w2.heap.size := T2.blk.lt
    have g0 := HE2.out.mark
    have g1 := HE2.out.bent
    have two := HE2.out.two
    have l0 : 0 < w2.heap.size := by omega
    have l1 : 1 < w2.heap.size := by omega
    clear T2 S2 RD HT HS HN hB' HE'
    rcases hp with ⟨hm, rfl⟩ | ⟨hn, v, ⟨c0, c1, gg, c3, c4, c5, c6, rfl⟩, rfl⟩ | ⟨f, hn, rfl⟩
    · have hb231 : byteAt s p ≠ 231 := fun r => hm ⟨by omega, by omega, by simpa using r⟩
      have NM := fun w h => hid (nextMark_all R s p e (by omega) he (by omega) w h)
      have HB231 := hid hb231
      clear hm hb231
      unfold frm0 errV
      go_wp2_with fail
      refine (errIs_same ea _).mono ?_
      rintro r w3 ⟨rfl, rfl⟩
      go_wp2_with fail
      refine (NM _ ((World.cell?_alloc_past (w := w2) _ R 0 Rlt).trans r0)).out.mono ?_
      rintro r w3 ⟨⟨q2, rfl, n1, n2, n3, n4⟩, rfl⟩
      have q2q : p < q2 := by
        rcases Nat.lt_or_ge p q2 with r | r
        · exact r
        · exact absurd (by rw [show p = q2 by omega]; exact n4 (by omega)) HB231.out
      have Q2 := hid q2q
      have N3 := hid n3
      clear n3 n4 q2q
      go_wp2_with fail
      go_step3
      refine ⟨rfl, ⟨q2, _, _, _, _, _, _, _, _, _, _, _, _, _, _, _, _, _, _, _, _, _, _, _, _, _, _, rfl, by omega, n2, fun k a b => (by by_cases c : k < p; (exact H3.out k a c); exact getRec_none s _ (fun r => N3.out k (by omega) b (by simpa using r.2.2))), HE2.out.below ((Below.refl _ _).alloc (Nat.le_refl _) _), hB2.past zb2 _, hv2, pv2, n2', m2, HT2.out.alloc _, HS2.out.trans (Step.of_below ((Below.refl _ _).alloc (Nat.le_refl _) _)), HN2.out⟩⟩
    · have HG := hid hn
      clear hn
      have wq : IntKind.i64.wrap ((p : Int) + 1) = (p : Int) + 1 := by simp [IntKind.wrap, IntKind.bits, IntKind.signed]; omega
      unfold errV
      go_wp2_with fail
      refine (errIs_other eb ea _ HE2.out.ne.symm (HE2.out.below ((Below.refl _ _).alloc (Nat.le_refl _) _)).rowB (HE2.out.below ((Below.refl _ _).alloc (Nat.le_refl _) _)).rowA).mono ?_
      rintro r w3 ⟨rfl, rfl⟩
      go_wp2_with fail
      refine (errIs_same eb _).mono ?_
      rintro r w3 ⟨rfl, rfl⟩
      go_wp2_with fail
      go_step3
      have cast1 : (p : Int) + 1 = ((p + 1 : Nat) : Int) := by omega
      rw [cast1]
      refine ⟨rfl, ⟨p + 1, _, _, _, _, _, _, _, _, _, _, _, _, _, _, _, _, _, _, _, _, _, _, _, _, _, _, rfl, by omega, by omega, fun k a b => (by by_cases c : k < p; (exact H3.out k a c); (have : k = p := by omega); rw [this]; exact HG.out), HE2.out.below ((Below.refl _ _).alloc (Nat.le_refl _) _), hB2.past zb2 _, hv2, pv2, n2', m2, HT2.out.alloc _, HS2.out.trans (Step.of_below ((Below.refl _ _).alloc (Nat.le_refl _) _)), HN2.out⟩⟩
    · have HG := hid hn
      have fa := (getRec_in' s p f hn)
      clear hn
      obtain ⟨ka, ks, g, ba, bs, a, n9⟩ := f
      unfold frmV
      simp only at fa ⊢
      subst fa
      go_wp2_with fail
      refine (errIs_nil ea _).mono ?_
      rintro r w3 ⟨rfl, rfl⟩
      go_wp2_with fail
      refine (errIs_nil eb _).mono ?_
      rintro r w3 ⟨rfl, rfl⟩
      have q0 := hB2.cell 0 _ rfl
      have f0 := hB2.free 0
      have q1 := hB2.cell 1 _ rfl
      have f1 := hB2.free 1
      have q2 := hB2.cell 2 _ rfl
      have f2 := hB2.free 2
      have q3 := hB2.cell 3 _ rfl
      have f3 := hB2.free 3
      have q4 := hB2.cell 4 _ rfl
      have f4 := hB2.free 4
      have q5 := hB2.cell 5 _ rfl
      have f5 := hB2.free 5
      have q6 := hB2.cell 6 _ rfl
      have f6 := hB2.free 6
      go_wp2
      simp only [Exit.jump]
      refine bodyPost_ret (v := .tuple #[.agg #[.int .i64 (ka : Nat), .int .i64 (ks : Nat), .bool g, .int .i64 (ba : Nat), .int .i64 (bs : Nat), .int .i64 (a : Nat), .int .i64 (n9 : Nat)], .bool true]) (by simp [results, Tryd.results38, go_sem, zb2, q0, q1, q2, q3, q4, q5, q6]) rfl ⟨Or.inl ⟨⟨ka, ks, g, ba, bs, a, n9⟩, HG.out, h1, hqe, H3.out, rfl⟩, tblE_grown HT2.out HS2.out ?_ HN2.out (Nat.le_refl _)⟩
      exact grown_alloc (grown_trans (grown_trans (grown_trans (grown_trans (grown_trans (grown_trans grown_set grown_set) grown_set) grown_set) grown_set) grown_set) grown_set) _
end Go.Proofs.YtefnoeaehglihaaDoor
