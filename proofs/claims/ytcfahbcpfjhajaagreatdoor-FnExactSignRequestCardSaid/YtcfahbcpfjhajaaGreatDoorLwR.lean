import Derived.Test.YtcfahbcpfjhajaaGreatDoorK1
import Derived.Test.YtcfahbcpfjhajaaGreatDoorS3
import Derived.Deep.CutRange
import Derived.Test.YtcfahbcpfjhajaaGreatDoorL1
namespace Go.Proofs.YtcfahbcpfjhajaaGreatDoor
open Go.RowKit
/-! Slices of pairs: how the laws mark them. -/
def mkQ (k0 p : Nat) : Value := .string (markB (k0 + p))
def mkH (k0 k : Nat) (f : Nat → Value) (p : Nat) : Value := if p < k then mkQ k0 p else f p
theorem mkH_put (k0 k : Nat) (f : Nat → Value) (p : Nat) : putF (mkH k0 k f) k (mkQ k0 k) p = mkH k0 (k + 1) f p := by
  unfold putF mkH
  by_cases e : p = k
  · rw [if_pos e, if_pos (by omega), e]
  · rw [if_neg e]
    by_cases e2 : p < k
    · rw [if_pos e2, if_pos (by omega)]
    · rw [if_neg e2, if_neg (by omega)]
/-- pairs that hold their marks -/
def Mkd (w : World) (a : Option Addr) (n k0 : Nat) : Prop := n = 0 ∨ ∃ b, a = some ⟨b, 0, none⟩ ∧ b < w.heap.size ∧ ∀ p, p < 2 * n → w.cell? ⟨b, p, none⟩ = some (mkQ k0 p)
theorem Mkd.below {w w' : World} {a : Option Addr} {n k0 : Nat} (h : Mkd w a n k0) (hb : Below w.heap.size w w') : Mkd w' a n k0 := by
  rcases h with h0 | ⟨b, rfl, h1, h2⟩
  · exact .inl h0
  · exact .inr ⟨b, rfl, Nat.lt_of_lt_of_le h1 hb.size, fun p hp => (hb.cell (p := ⟨b, p, none⟩) h1).trans (h2 p hp)⟩
set_option maxRecDepth 20000 in
set_option maxHeartbeats 2000000 in
theorem heldHps (a : Option Addr) (n cap k0 : Nat) (h1 : 1 ≤ k0) (hl : n ≤ 1048576) (hk : k0 ≤ 4194304) (w : World) (h : Mkd w a n k0) :
    Calls Tryz.prog 66 #[.slice a n cap, .int .i64 k0] w fun e w' => e = .returned (.int .i64 ((k0 + 2 * n : Nat) : Int)) ∧ Below w.heap.size w w' := by
  have HH := hid h
  clear h
  go_enter Tryz.func66, Tryz.ntmps66
  go_wp2_with fail
  go_loopw [5, 1] (fun x y wr => ∃ (k : Nat), k ≤ n ∧ x = .int .i64 k ∧ y = .int .i64 ((k0 + 2 * k : Nat) : Int) ∧ Below w.heap.size w wr) (fun x _ _ => n - (intOf x).toNat)
  case atStart => exact ⟨0, Nat.zero_le _, rfl, rfl, Below.refl _ _⟩
  case round =>
    obtain ⟨k, hkl, rfl, rfl, hB⟩ := hrel
    have HB := hid hB
    clear hB
    by_cases hlt : k < n
    · have hlt' : (k : Int) < (n : Int) := by omega
      have i0 : (0 : Int) ≤ (k : Int) := by omega
      rcases HH.out.below HB.out with h00 | ⟨b, rfl, hbl, hc⟩
      · omega
      obtain ⟨q, hq⟩ : ∃ q, q = k0 + k * 2 := ⟨_, rfl⟩
      have c0 : wr.cell? ⟨b, k * 2, none⟩ = some (.string (markB q)) := by rw [hc _ (by omega), hq]; rfl
      have c1 : wr.cell? ⟨b, k * 2 + 1, none⟩ = some (.string (markB (q + 1))) := by rw [hc _ (by omega), hq]; rfl
      have M0 := fun w => hid (markT q (by omega) (by omega) w)
      have M1 := fun w => hid (markT (q + 1) (by omega) (by omega) w)
      obtain ⟨m0, hm0⟩ : ∃ m, m = markB q := ⟨_, rfl⟩
      obtain ⟨m1, hm1⟩ : ∃ m, m = markB (q + 1) := ⟨_, rfl⟩
      rw [← hm0] at c0 M0
      rw [← hm1] at c1 M1
      rw [show k0 + 2 * k = q by omega]
      have HQ := hid hq
      rw [show ((q + 1 : Nat) : Int) = (q : Int) + 1 by omega] at M1
      have hq9 : q ≤ 8388608 := by omega
      clear hq hc hm0 hm1 HH
      go_wp2_with fail
      go_region_held3 (fun wx => wx.cell? ⟨b, k * 2, none⟩ = some (.string m0)) (first | exact c0 | exact (hb2.cell hbl).trans c0) ((go_at_call 65; refine (M0 _).out.mono ?_; rintro e w2 ⟨rfl, hb2⟩))
      have N2 : Hid (Below w.heap.size w w2) := HB.out.drew.trans (hb2.mono HB.out.size)
      have bl2 : b < w2.heap.size := Nat.lt_of_lt_of_le hbl hb2.size
      have d1 := (hb2.cell (p := ⟨b, k * 2 + 1, none⟩) hbl).trans c1
      clear hb2 c0 c1 HB
      go_wp2_with fail
      go_region_held3 (fun wx => wx.cell? ⟨b, k * 2 + 1, none⟩ = some (.string m1)) (first | exact d1 | exact (hb3.cell bl2).trans d1) ((go_at_call 65; refine (M1 _).out.mono ?_; rintro e w3 ⟨rfl, hb3⟩))
      have N3 : Hid (Below w.heap.size w w3) := N2.out.drew.trans (hb3.mono N2.out.size)
      clear hb3 d1 N2
      go_wp2
      go_roundw
      case rel => exact ⟨k + 1, by omega, by go_num, by rw [show k0 + 2 * (k + 1) = q + 1 + 1 by have := HQ.out; omega]; go_num, N3.out⟩
      case measure => simp [intOf]; omega
    · have hke : k = n := by omega
      subst hke
      have hlt' : ¬ (k : Int) < (k : Int) := by omega
      go_wp2
      go_ret
      exact ⟨rfl, HB.out⟩
set_option maxRecDepth 20000 in
set_option maxHeartbeats 2000000 in
theorem markHps0 (a : Option Addr) (cap k0 : Nat) (w : World) : Calls Tryz.prog 64 #[.slice a 0 cap, .int .i64 k0] w fun e w' => e = .returned (.int .i64 k0) ∧ w' = w := by
  go_enter Tryz.func64, Tryz.ntmps64
  go_wp2
  go_loopw [5, 1] (fun x y wr => x = .int .i64 0 ∧ y = .int .i64 k0 ∧ wr = w) (fun _ _ _ => 0)
  case atStart => exact ⟨rfl, rfl, rfl⟩
  case round =>
    obtain ⟨rfl, rfl, rfl⟩ := hrel
    go_wp2
    go_ret
    exact ⟨rfl, rfl⟩
set_option maxRecDepth 20000 in
set_option maxHeartbeats 2000000 in
theorem markHps (b n cap k0 : Nat) (t : TypeId) (N : Nat) (hN : 2 * n ≤ N) (f : Nat → Value) (h1 : 1 ≤ k0) (hl : n ≤ 1048576) (hk : k0 ≤ 4194304) (w : World) (h : FRow w b t N f) :
    Calls Tryz.prog 64 #[.slice (some ⟨b, 0, none⟩) n cap, .int .i64 k0] w fun e w' => e = .returned (.int .i64 ((k0 + 2 * n : Nat) : Int)) ∧ FRow w' b t N (mkH k0 (2 * n) f) ∧ w.grownBy w' (some b) := by
  have HH := hid h
  clear h
  go_enter Tryz.func64, Tryz.ntmps64
  go_wp2_with fail
  go_loopw [5, 1] (fun x y wr => ∃ (k : Nat), k ≤ n ∧ x = .int .i64 k ∧ y = .int .i64 ((k0 + 2 * k : Nat) : Int) ∧ FRow wr b t N (mkH k0 (2 * k) f) ∧ w.grownBy wr (some b)) (fun x _ _ => n - (intOf x).toNat)
  case atStart => exact ⟨0, Nat.zero_le _, rfl, rfl, HH.out.congr fun p _ => by unfold mkH; rw [if_neg (by omega)], below_grown (Below.refl _ _) _⟩
  case round =>
    obtain ⟨k, hkl, rfl, rfl, hF, hG⟩ := hrel
    have HF := hid hF
    have HG := hid hG
    clear hF hG HH
    by_cases hlt : k < n
    · have hlt' : (k : Int) < (n : Int) := by omega
      have i0 : (0 : Int) ≤ (k : Int) := by omega
      obtain ⟨q, hq⟩ : ∃ q, q = k0 + k * 2 := ⟨_, rfl⟩
      rw [show mkH k0 (2 * k) f = mkH k0 (k * 2) f by rw [Nat.mul_comm]] at HF
      have M0 := fun w => hid (markT q (by omega) (by omega) w)
      have M1 := fun w => hid (markT (q + 1) (by omega) (by omega) w)
      obtain ⟨m0, hm0⟩ : ∃ m, m = markB q := ⟨_, rfl⟩
      obtain ⟨m1, hm1⟩ : ∃ m, m = markB (q + 1) := ⟨_, rfl⟩
      have r0 : Hid (Value.string m0 = mkQ k0 (k * 2)) := by show _ = _; rw [hm0, hq]; rfl
      have r1 : Hid (Value.string m1 = mkQ k0 (k * 2 + 1)) := by show _ = _; rw [hm1, hq]; rfl
      rw [← hm0] at M0
      rw [← hm1] at M1
      rw [show k0 + 2 * k = q by omega]
      have HQ := hid hq
      rw [show ((q + 1 : Nat) : Int) = (q : Int) + 1 by omega] at M1
      have hq9 : q ≤ 8388608 := by omega
      have lt0 := HF.out.lt
      clear hq hm0 hm1
      go_wp2_with fail
      refine (M0 _).out.mono ?_
      rintro e u1 ⟨rfl, hb1⟩
      have F1 : Hid (FRow u1 b t N (mkH k0 (k * 2) f)) := HF.out.below hb1 lt0
      have G1 : Hid (w.grownBy u1 (some b)) := grown_trans HG.out (below_grown hb1 _)
      clear hb1 HF HG
      have F2 : Hid (FRow (u1.setCell ⟨b, k * 2, none⟩ (.string m0)) b t N (mkH k0 (k * 2 + 1) f)) := (F1.out.set (k * 2) (.string m0)).congr (fun p _ => by rw [r0.out]; exact mkH_put k0 (k * 2) f p)
      have G2 : Hid (w.grownBy (u1.setCell ⟨b, k * 2, none⟩ (.string m0)) (some b)) := grown_trans G1.out grown_set
      obtain ⟨W1, hW1⟩ : ∃ W1, W1 = u1.setCell ⟨b, k * 2, none⟩ (.string m0) := ⟨_, rfl⟩
      rw [← hW1] at F2 G2
      have y0 := F1.out.cell (p := k * 2) (by omega)
      have g0 := F1.out.free (k * 2)
      generalize mkH k0 (k * 2) f (k * 2) = v0 at y0
      have HW1 := hid hW1
      have lt1 := F2.out.lt
      clear hW1 F1 G1
      go_wp2_with fail
      rw [← HW1.out]
      clear HW1 y0 g0
      refine (M1 _).out.mono ?_
      rintro e u3 ⟨rfl, hb3⟩
      have F4 : Hid (FRow u3 b t N (mkH k0 (k * 2 + 1) f)) := F2.out.below hb3 lt1
      have G4 : Hid (w.grownBy u3 (some b)) := grown_trans G2.out (below_grown hb3 _)
      clear hb3 F2 G2
      have e9 : ∀ x, x < N → putF (mkH k0 (k * 2 + 1) f) (k * 2 + 1) (.string m1) x = mkH k0 (2 * (k + 1)) f x := fun x _ => by rw [r1.out, mkH_put, show k * 2 + 1 + 1 = 2 * (k + 1) by omega]
      have F5 : Hid (FRow (u3.setCell ⟨b, k * 2 + 1, none⟩ (.string m1)) b t N (mkH k0 (2 * (k + 1)) f)) := (F4.out.set (k * 2 + 1) (.string m1)).congr e9
      clear e9
      have G5 : Hid (w.grownBy (u3.setCell ⟨b, k * 2 + 1, none⟩ (.string m1)) (some b)) := grown_trans G4.out grown_set
      have y1 := F4.out.cell (p := k * 2 + 1) (by omega)
      have g1 := F4.out.free (k * 2 + 1)
      generalize mkH k0 (k * 2 + 1) f (k * 2 + 1) = v1 at y1
      clear F4 G4
      go_wp2
      go_roundw
      case rel => exact ⟨k + 1, by omega, by go_num, by rw [show k0 + 2 * (k + 1) = q + 1 + 1 by have := HQ.out; omega]; go_num, F5.out, G5.out⟩
      case measure => simp [intOf]; omega
    · have hke : k = n := by omega
      subst hke
      have hlt' : ¬ (k : Int) < (k : Int) := by omega
      go_wp2
      go_ret
      exact ⟨rfl, HF.out, HG.out⟩
end Go.Proofs.YtcfahbcpfjhajaaGreatDoor
namespace Go.Proofs.YtcfahbcpfjhajaaGreatDoor
open Go.RowKit
/-! What the laws do with a request that was read. -/
theorem OwnHp.frow {w : World} {base : Nat} {v : Value} {L : List Hp} (h : OwnHp w base v L) (h0 : 0 < L.length) : ∃ g cap N f, v = .slice (some ⟨g, 0, none⟩) L.length cap ∧ base ≤ g ∧ g < w.heap.size ∧ 2 * L.length ≤ N ∧ FRow w g 66 N f := by
  rcases h.2 with ⟨_, h2⟩ | ⟨g, cap, cur, h1, h2, h3, h4, h5, h6, h7⟩
  · omega
  · have hg : v.ownBlock = some g := by rw [h1]; rfl
    refine ⟨g, cap, cap * 2, fun p => cur.getD p undef, h1, h2, (World.ownsRow.lt h g hg).2, by omega, cur, h3, h6, fun p hp => ?_⟩
    have : p < cur.size := by omega
    simp [Array.getD, this]
section
variable (c l : Int) (m p : ByteArray) (a1 : Option Addr) (n1 c1 : Nat) (a2 : Option Addr) (n2 c2 : Nat) (b : ByteArray) (N : Int) (w : World)
/-- one slice of pairs after the other is marked -/
def Mk2 (w' : World) (a1 : Option Addr) (n1 : Nat) (a2 : Option Addr) (n2 k0 : Nat) : Prop := Mkd w' a1 n1 k0 ∧ Mkd w' a2 n2 (k0 + 2 * n1)
theorem Mk2.below {w1 w' : World} {a1 : Option Addr} {n1 : Nat} {a2 : Option Addr} {n2 k0 : Nat} (h : Mk2 w1 a1 n1 a2 n2 k0) (hb : Below w1.heap.size w1 w') : Mk2 w' a1 n1 a2 n2 k0 := ⟨h.1.below hb, h.2.below hb⟩
set_option maxRecDepth 20000 in
set_option maxHeartbeats 2000000 in
theorem heldRq (k0 : Nat) (hk : 1 ≤ k0) (hk2 : k0 ≤ 1048576) (hn1 : n1 ≤ 100) (hn2 : n2 ≤ 100) (h : Mk2 w a1 n1 a2 n2 k0) :
    Calls Tryz.prog 26 #[.agg #[.string m, .string p, .slice a1 n1 c1, .slice a2 n2 c2, .string b], .int .i64 k0] w fun e w' => e = .returned (.int .i64 ((k0 + 2 * n1 + 2 * n2 : Nat) : Int)) ∧ Below w.heap.size w w' := by
  obtain ⟨W0, hW0⟩ : ∃ W, W = w.alloc (.cells #[.string m, .string p, .slice a1 n1 c1, .slice a2 n2 c2, .string b] 25) := ⟨_, rfl⟩
  have J := Jn.box w 25 #[.string m, .string p, .slice a1 n1 c1, .slice a2 n2 c2, .string b]
  rw [← hW0] at J
  have K1 := hid (heldHps a1 n1 c1 k0 hk (by omega) (by omega) W0 (h.1.below J.out.2))
  have K2 := fun wx (hx : Below w.heap.size w wx) => hid (heldHps a2 n2 c2 (k0 + 2 * n1) (by omega) (by omega) (by omega) wx (h.2.below hx))
  have r2 := J.out.1.cell 2
  have r3 := J.out.1.cell 3
  have d1 : ¬ ((k0 + 2 * n1 : Nat) : Int) < 0 := by omega
  have d2 : ¬ ((k0 + 2 * n1 + 2 * n2 : Nat) : Int) < 0 := by omega
  obtain ⟨k1, hk1⟩ : ∃ k, k = k0 + 2 * n1 := ⟨_, rfl⟩
  rw [← hk1] at K1 K2 d1 d2 ⊢
  obtain ⟨k2, hk3⟩ : ∃ k, k = k1 + 2 * n2 := ⟨_, rfl⟩
  rw [← hk3] at K2 d2 ⊢
  clear hk1 hk3 h
  go_enter Tryz.func26, Tryz.ntmps26
  go_wp2_with fail
  rw [← hW0]
  clear hW0
  go_wp2_with fail
  refine K1.out.mono ?_
  rintro e w1 ⟨rfl, hb1⟩
  replace J := Jn.next hb1 J
  clear hb1 r2 r3
  have r3 := J.out.1.cell 3
  go_wp2_with fail
  refine (K2 _ J.out.2).out.mono ?_
  rintro e w2 ⟨rfl, hb2⟩
  replace J := Jn.next hb2 J
  clear hb2 r3
  go_wp2
  go_ret
  exact ⟨rfl, J.out.2⟩
/-- a slice of pairs of the call's own is marked: what had been there ahead of base is as it was -/
theorem markOne (base k0 : Nat) (L : List Hp) (a : Option Addr) (cap : Nat) (hL : L.length ≤ 100) (hk : 1 ≤ k0) (hk2 : k0 ≤ 1048576) (h : OwnHp w base (.slice a L.length cap) L) :
    Calls Tryz.prog 64 #[.slice a L.length cap, .int .i64 k0] w fun e w' => e = .returned (.int .i64 ((k0 + 2 * L.length : Nat) : Int)) ∧ Mkd w' a L.length k0 ∧ ∃ r, w.grownBy w' r ∧ (Value.slice a L.length cap).ownBlock = r := by
  by_cases h0 : 0 < L.length
  · obtain ⟨g, cp, M, f, he, hb, hg, hM, hF⟩ := h.frow h0
    cases he
    refine (markHps g L.length cap k0 66 M hM f hk (by omega) (by omega) w hF).mono ?_
    rintro e w' ⟨rfl, hF', hg'⟩
    refine ⟨rfl, .inr ⟨g, rfl, hF'.lt, fun x hx => ?_⟩, some g, hg', rfl⟩
    rw [hF'.cell (by omega)]
    unfold mkH
    rw [if_pos hx]
  · have h00 : L.length = 0 := by omega
    rw [h00] at h ⊢
    refine (markHps0 a cap k0 w).mono ?_
    rintro e w' ⟨rfl, rfl⟩
    exact ⟨rfl, .inl rfl, _, below_grown (Below.refl _ _) _, rfl⟩
/-- what a marking leaves as it was -/
structure Fr2 (w w' : World) (v1 v2 : Value) : Prop where
  os : w'.os = w.os
  tape : w'.tape = w.tape
  output : w'.output = w.output
  size : w.heap.size ≤ w'.heap.size
  block : ∀ j, j < w.heap.size → v1.ownBlock ≠ some j → v2.ownBlock ≠ some j → w'.heap[j]? = w.heap[j]?
theorem Mkd.far {w w' : World} {a : Option Addr} {n k0 cap : Nat} {r : Option Nat} (h : Mkd w a n k0) (hg : w.grownBy w' r) (hd : ∀ g, (Value.slice a n cap).ownBlock = some g → r ≠ some g) : Mkd w' a n k0 := by
  rcases h with h0 | ⟨b, rfl, h1, h2⟩
  · exact .inl h0
  · refine .inr ⟨b, rfl, Nat.lt_of_lt_of_le h1 hg.size, fun p hp => ?_⟩
    have hb : w'.heap[b]? = w.heap[b]? := hg.block b h1 (fun e => hd b rfl e.symm)
    rw [← h2 p hp]
    simp only [World.cell?, hb]
set_option maxRecDepth 20000 in
set_option maxHeartbeats 2000000 in
theorem markRq (base k0 : Nat) (Q H : List Hp) (hQ : Q.length ≤ 100) (hH : H.length ≤ 100) (hk : 1 ≤ k0) (hk2 : k0 ≤ 10000) (h1 : OwnHp w base (.slice a1 Q.length c1) Q) (h2 : OwnHp w base (.slice a2 H.length c2) H) (dj : ∀ g, (Value.slice a1 Q.length c1).ownBlock = some g → (Value.slice a2 H.length c2).ownBlock ≠ some g) :
    Calls Tryz.prog 24 #[.agg #[.string m, .string p, .slice a1 Q.length c1, .slice a2 H.length c2, .string b], .int .i64 k0] w fun e w' => e = .returned (.int .i64 ((k0 + 2 * Q.length + 2 * H.length : Nat) : Int)) ∧ Mk2 w' a1 Q.length a2 H.length k0 ∧ Fr2 w w' (.slice a1 Q.length c1) (.slice a2 H.length c2) := by
  obtain ⟨W0, hW0⟩ : ∃ W, W = w.alloc (.cells #[.string m, .string p, .slice a1 Q.length c1, .slice a2 H.length c2, .string b] 25) := ⟨_, rfl⟩
  have R0 : Hid (RowAt W0 w.heap.size 25 #[.string m, .string p, .slice a1 Q.length c1, .slice a2 H.length c2, .string b]) := by rw [hW0]; exact RowAt.new _ _ _
  have B0 : Hid (Below w.heap.size w W0) := by rw [hW0]; exact (Below.refl _ _).alloc (Nat.le_refl _) _
  have O1 : OwnHp W0 base (.slice a1 Q.length c1) Q := OwnHp.next B0.out h1
  have O2 : Hid (OwnHp W0 base (.slice a2 H.length c2) H) := OwnHp.next B0.out h2
  have L1 : Hid (∀ g, (Value.slice a1 Q.length c1).ownBlock = some g → g < w.heap.size) := fun g e => (World.ownsRow.lt h1 g e).2
  have L2 : Hid (∀ g, (Value.slice a2 H.length c2).ownBlock = some g → g < w.heap.size) := fun g e => (World.ownsRow.lt h2 g e).2
  have K1 := hid (markOne W0 base k0 Q a1 c1 hQ hk (by omega) O1)
  have K2 := fun wx (hx : OwnHp wx base (.slice a2 H.length c2) H) => hid (markOne wx base (k0 + 2 * Q.length) H a2 c2 hH (by omega) (by omega) hx)
  have DJ := hid dj
  have r2 := R0.out.cell 2
  obtain ⟨k1, hk1⟩ : ∃ k, k = k0 + 2 * Q.length := ⟨_, rfl⟩
  have HK := hid hk1
  rw [← hk1] at K1 K2 ⊢
  obtain ⟨k2, hk3⟩ : ∃ k, k = k1 + 2 * H.length := ⟨_, rfl⟩
  rw [← hk3] at K2 ⊢
  obtain ⟨q1, hq1⟩ : ∃ q, q = Q.length := ⟨_, rfl⟩
  obtain ⟨q2, hq2⟩ : ∃ q, q = H.length := ⟨_, rfl⟩
  rw [← hq1] at R0 K1 L1 DJ hW0 r2 HK ⊢
  rw [← hq2] at R0 O2 K2 L2 DJ hW0 ⊢
  clear hk1 hk3 h1 h2 dj O1 hq1 hq2 hQ hH
  go_enter Tryz.func24, Tryz.ntmps24
  go_wp2_with fail
  rw [← hW0]
  clear hW0
  go_wp2_with fail
  refine K1.out.mono ?_
  rintro e w1 ⟨rfl, hm1, r, hg1, hr⟩
  have R1 : Hid (RowAt w1 w.heap.size 25 #[.string m, .string p, .slice a1 q1 c1, .slice a2 q2 c2, .string b]) := (hg1.block _ R0.out.lt (fun e => by have := L1.out _ (hr.trans e.symm); omega)).trans R0.out
  have O21 : Hid (OwnHp w1 base (.slice a2 q2 c2) H) := by
    refine World.ownsRow.kept O2.out hg1 ?_
    cases hz : (Value.slice a2 q2 c2).ownBlock with
    | none => exact .inl rfl
    | some g => exact .inr fun e => DJ.out g (by rw [hr, ← e]) hz
  have M1 := hid hm1
  have G1 := hid hg1
  have HR := hid hr
  have r3 := R1.out.cell 3
  clear r2 hm1 hg1 hr
  go_wp2_with fail
  refine (K2 _ O21.out).out.mono ?_
  rintro e w2 ⟨rfl, hm2, r', hg2, hr'⟩
  have F : Hid (Mk2 w2 a1 q1 a2 q2 k0 ∧ Fr2 w w2 (.slice a1 q1 c1) (.slice a2 q2 c2)) := by
    have hk := HK.out
    subst hk
    refine ⟨⟨M1.out.far (cap := c1) hg2 fun g e1 e2 => DJ.out g e1 (hr'.trans e2), hm2⟩, ?_⟩
    refine ⟨hg2.os.trans (G1.out.os.trans B0.out.os), hg2.tape.trans (G1.out.tape.trans B0.out.tape), hg2.output.trans (G1.out.output.trans B0.out.output), Nat.le_trans B0.out.size (Nat.le_trans G1.out.size hg2.size), fun j hj n1 n2 => ?_⟩
    have j0 : j < W0.heap.size := Nat.lt_of_lt_of_le hj B0.out.size
    rw [hg2.block j (Nat.lt_of_lt_of_le j0 G1.out.size) (fun e => n2 (hr'.trans e.symm)), G1.out.block j j0 (fun e => n1 (HR.out.trans e.symm))]
    exact B0.out.block j hj
  clear hm2 hg2 hr' r3
  go_wp2
  go_ret
  exact ⟨rfl, F.out⟩
end
end Go.Proofs.YtcfahbcpfjhajaaGreatDoor
