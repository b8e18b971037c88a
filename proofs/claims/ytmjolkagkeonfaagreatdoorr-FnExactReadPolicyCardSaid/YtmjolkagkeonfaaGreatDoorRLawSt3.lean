import Derived.Test.YtmjolkagkeonfaaGreatDoorRLawSt2
namespace Go.Proofs.YtmjolkagkeonfaaGreatDoorR
open Go.RowKit
set_option maxRecDepth 20000 in
set_option maxHeartbeats 4000000 in
theorem eqSts (a : Option Addr) (m cap : Nat) (R : Nat → St) (a' : Option Addr) (cap' : Nat) (R' : Nat → St) (hm : m ≤ 1048576) (hR : ∀ k, k < m → StEq (R k) (R' k)) (hs : ∀ k, k < m → StB (R k) 1048576) (w : World) (h : Sts w a m cap R) (h' : Sts w a' m cap' R') :
    Calls Tryz.prog 38 #[.slice a m cap, .slice a' m cap'] w fun e w' => e = .returned (.bool true) ∧ Below w.heap.size w w' := by
  have HH := hid h
  have HH' := hid h'
  have HR := hid hR
  have HS := hid hs
  have dn : ((m : Int) != (m : Int)) = false := by simp
  clear h h' hR hs
  go_enter Tryz.func38, Tryz.ntmps38
  go_wp2_with fail
  go_loopw [5] (fun q wr => ∃ (k : Nat), k ≤ m ∧ q = .int .i64 k ∧ Below w.heap.size w wr) (fun q _ => m - (intOf q).toNat)
  case atStart => exact ⟨0, Nat.zero_le _, rfl, Below.refl _ _⟩
  case round =>
    obtain ⟨k, hk, rfl, hB⟩ := hrel
    have HB := hid hB
    clear hB
    by_cases hlt : k < m
    · have hlt' : (k : Int) < (m : Int) := by omega
      have k0 : (0 : Int) ≤ (k : Int) := by omega
      rcases (HH.out.below HB.out).2.1 with h00 | ⟨b, off, rfl, hbl, hc⟩
      · omega
      rcases (HH'.out.below HB.out).2.1 with h00 | ⟨b', off', rfl, hbl', hc'⟩
      · omega
      obtain ⟨c0, c1, c2, c3, c4⟩ := hc k hlt
      obtain ⟨x0, x1, x2, x3, x4⟩ := hc' k hlt
      have i1 := (HH.out.below HB.out).2.2 k hlt
      have i2 := (HH'.out.below HB.out).2.2 k hlt
      have K := fun wx (hb : Below wr.heap.size wr wx) => hid (eqSt (R k) (R' k) (HR.out k hlt) (HS.out k hlt) wx (i1.below hb) (i2.below hb))
      clear i1 i2 hc hc'
      generalize R k = S at c0 c1 c2 c3 c4 K
      generalize R' k = S' at x0 x1 x2 x3 x4 K
      obtain ⟨f, ⟨a1, n1, e1, t1⟩, ⟨a2, n2, e2, t2⟩, ⟨a3, n3, e3, t3⟩, ⟨a4, n4, e4, o4⟩⟩ := S
      obtain ⟨f', ⟨a1', n1', e1', t1'⟩, ⟨a2', n2', e2', t2'⟩, ⟨a3', n3', e3', t3'⟩, ⟨a4', n4', e4', o4'⟩⟩ := S'
      dsimp only at c0 c1 c2 c3 c4 x0 x1 x2 x3 x4 K
      go_wp2_with fail
      go_region_held3 (fun wx => (wx.cell? ⟨b, off + k * 5, none⟩ = some (.int .i64 f) ∧ wx.cell? ⟨b, off + k * 5 + 1, none⟩ = some (.slice a1 n1 e1) ∧ wx.cell? ⟨b, off + k * 5 + 2, none⟩ = some (.slice a2 n2 e2) ∧ wx.cell? ⟨b, off + k * 5 + 3, none⟩ = some (.slice a3 n3 e3) ∧ wx.cell? ⟨b, off + k * 5 + 4, none⟩ = some (.slice a4 n4 e4)) ∧ wx.cell? ⟨b', off' + k * 5, none⟩ = some (.int .i64 f') ∧ wx.cell? ⟨b', off' + k * 5 + 1, none⟩ = some (.slice a1' n1' e1') ∧ wx.cell? ⟨b', off' + k * 5 + 2, none⟩ = some (.slice a2' n2' e2') ∧ wx.cell? ⟨b', off' + k * 5 + 3, none⟩ = some (.slice a3' n3' e3') ∧ wx.cell? ⟨b', off' + k * 5 + 4, none⟩ = some (.slice a4' n4' e4'))
        (first | exact ⟨⟨c0, c1, c2, c3, c4⟩, x0, x1, x2, x3, x4⟩ | exact ⟨⟨(hb2.cell hbl).trans c0, (hb2.cell hbl).trans c1, (hb2.cell hbl).trans c2, (hb2.cell hbl).trans c3, (hb2.cell hbl).trans c4⟩, (hb2.cell hbl').trans x0, (hb2.cell hbl').trans x1, (hb2.cell hbl').trans x2, (hb2.cell hbl').trans x3, (hb2.cell hbl').trans x4⟩)
        ((go_at_call 56; refine (K _ (Below.refl _ wr).drew).out.mono ?_; rintro e w2 ⟨rfl, hb2⟩))
      have N2 : Hid (Below w.heap.size w w2) := HB.out.drew.trans (hb2.mono HB.out.size)
      clear hb2 c0 c1 c2 c3 c4 x0 x1 x2 x3 x4 HB K
      go_wp2
      go_roundw
      case rel => exact ⟨k + 1, by omega, by go_num, N2.out⟩
      case measure => simp [intOf]; omega
    · have hlt' : ¬ (k : Int) < (m : Int) := by omega
      go_wp2
      go_ret
      exact ⟨rfl, HB.out⟩
def st0 : St := ⟨0, ⟨none, 0, 0, fun _ => ⟨#[]⟩⟩, ⟨none, 0, 0, fun _ => ⟨#[]⟩⟩, ⟨none, 0, 0, fun _ => ⟨#[]⟩⟩, ⟨none, 0, 0, fun _ => cn0⟩⟩
/-- the first k that were made, then zero ones -/
def stTo (R : Nat → St) (k i : Nat) : St := if i < k then R i else st0
/-- one more -/
def stPut (R : Nat → St) (k : Nat) (s : St) (i : Nat) : St := if i = k then s else R i
theorem stTo_put (R : Nat → St) (k : Nat) (s : St) (p : Nat) : putF (putF (putF (putF (putF (stF (stTo R k)) (k * 5) (.int .i64 s.ef)) (k * 5 + 1) (.slice s.wo.ad s.wo.n s.wo.cap)) (k * 5 + 2) (.slice s.wa.ad s.wa.n s.wa.cap)) (k * 5 + 3) (.slice s.wi.ad s.wi.n s.wi.cap)) (k * 5 + 4) (.slice s.cs.ad s.cs.n s.cs.cap) p = stF (stTo (stPut R k s) (k + 1)) p := by
  unfold putF
  by_cases h4 : p = k * 5 + 4
  · subst h4; rw [if_pos rfl, stF4]; unfold stTo stPut; simp
  rw [if_neg h4]
  by_cases h3 : p = k * 5 + 3
  · subst h3; rw [if_pos rfl, stF3]; unfold stTo stPut; simp
  rw [if_neg h3]
  by_cases h2 : p = k * 5 + 2
  · subst h2; rw [if_pos rfl, stF2]; unfold stTo stPut; simp
  rw [if_neg h2]
  by_cases h1 : p = k * 5 + 1
  · subst h1; rw [if_pos rfl, stF1]; unfold stTo stPut; simp
  rw [if_neg h1]
  by_cases h0 : p = k * 5
  · subst h0; rw [if_pos rfl, stF0]; unfold stTo stPut; simp
  rw [if_neg h0]
  have hk : stTo (stPut R k s) (k + 1) (p / 5) = stTo R k (p / 5) := by
    unfold stTo stPut
    by_cases h : p / 5 < k
    · rw [if_pos h, if_pos (by omega), if_neg (by omega)]
    · rw [if_neg h, if_neg (by omega)]
  unfold stF
  rw [hk]
end Go.Proofs.YtmjolkagkeonfaaGreatDoorR
