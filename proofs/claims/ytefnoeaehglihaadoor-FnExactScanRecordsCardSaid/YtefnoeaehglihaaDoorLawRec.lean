import Derived.Test.YtefnoeaehglihaaDoorMarkT
import Derived.Test.YtefnoeaehglihaaDoorEqRec
import Derived.Deep.CutRange
namespace Go.Proofs.YtefnoeaehglihaaDoor
open Go.RowKit
/-! Slices of records: what the laws do with them. -/
def Rcs (w : World) (a : Option Addr) (n cap : Nat) (f : Nat → Value) : Prop :=
  n ≤ cap ∧ (n = 0 ∨ ∃ b, a = some ⟨b, 0, none⟩ ∧ b < w.heap.size ∧ ∀ p, p < 5 * n → w.cell? ⟨b, p, none⟩ = some (f p))
theorem Rcs.below {w w' : World} {a : Option Addr} {n cap : Nat} {f : Nat → Value} (h : Rcs w a n cap f) (hb : Below w.heap.size w w') : Rcs w' a n cap f := by
  refine ⟨h.1, ?_⟩
  rcases h.2 with h0 | ⟨b, rfl, h1, h2⟩
  · exact Or.inl h0
  · exact Or.inr ⟨b, rfl, Nat.lt_of_lt_of_le h1 hb.size, fun p hp => (hb.cell (p := ⟨b, p, none⟩) h1).trans (h2 p hp)⟩
def RcShape (n : Nat) (f : Nat → Value) : Prop := ∀ k, k < n → ∃ (K : ByteArray) (G : Bool) (D : ByteArray) (A N : Int), f (k * 5) = .string K ∧ f (k * 5 + 1) = .bool G ∧ f (k * 5 + 2) = .string D ∧ f (k * 5 + 3) = .int .i64 A ∧ f (k * 5 + 4) = .int .i64 N
set_option maxRecDepth 20000 in
set_option maxHeartbeats 2000000 in
theorem eqRecs (a : Option Addr) (n cap : Nat) (a' : Option Addr) (cap' : Nat) (f : Nat → Value) (hl : n ≤ 1048576) (hf : RcShape n f) (w : World) (h : Rcs w a n cap f) (h' : Rcs w a' n cap' f) :
    Calls Tryd.prog 17 #[.slice a n cap, .slice a' n cap'] w fun e w' => e = .returned (.bool true) ∧ Below w.heap.size w w' := by
  have HH := hid h
  have HH' := hid h'
  have HF := hid hf
  have dn : ((n : Int) != (n : Int)) = false := by simp
  clear h h' hf
  go_enter Tryd.func17, Tryd.ntmps17
  go_wp2_with fail
  go_loopw [5] (fun y wr => ∃ (k : Nat), k ≤ n ∧ y = .int .i64 k ∧ Below w.heap.size w wr) (fun y _ => n - (intOf y).toNat)
  case atStart => exact ⟨0, Nat.zero_le _, rfl, Below.refl _ _⟩
  case round =>
    obtain ⟨k, hk, rfl, hB⟩ := hrel
    have HB := hid hB
    clear hB
    by_cases hlt : k < n
    · have hlt' : (k : Int) < (n : Int) := by omega
      have k0 : (0 : Int) ≤ (k : Int) := by omega
      rcases (HH.out.below HB.out).2 with h00 | ⟨b, rfl, hbl, hc⟩
      · omega
      rcases (HH'.out.below HB.out).2 with h00 | ⟨b', rfl, hbl', hc'⟩
      · omega
      obtain ⟨K, G, D, A, N, s0, s1, s2, s3, s4⟩ := HF.out k hlt
      have c0 : wr.cell? ⟨b, k * 5, none⟩ = some (.string K) := by rw [← s0]; exact hc _ (by omega)
      have c1 : wr.cell? ⟨b, k * 5 + 1, none⟩ = some (.bool G) := by rw [← s1]; exact hc _ (by omega)
      have c2 : wr.cell? ⟨b, k * 5 + 2, none⟩ = some (.string D) := by rw [← s2]; exact hc _ (by omega)
      have c3 : wr.cell? ⟨b, k * 5 + 3, none⟩ = some (.int .i64 A) := by rw [← s3]; exact hc _ (by omega)
      have c4 : wr.cell? ⟨b, k * 5 + 4, none⟩ = some (.int .i64 N) := by rw [← s4]; exact hc _ (by omega)
      have e0 : wr.cell? ⟨b', k * 5, none⟩ = some (.string K) := by rw [← s0]; exact hc' _ (by omega)
      have e1 : wr.cell? ⟨b', k * 5 + 1, none⟩ = some (.bool G) := by rw [← s1]; exact hc' _ (by omega)
      have e2 : wr.cell? ⟨b', k * 5 + 2, none⟩ = some (.string D) := by rw [← s2]; exact hc' _ (by omega)
      have e3 : wr.cell? ⟨b', k * 5 + 3, none⟩ = some (.int .i64 A) := by rw [← s3]; exact hc' _ (by omega)
      have e4 : wr.cell? ⟨b', k * 5 + 4, none⟩ = some (.int .i64 N) := by rw [← s4]; exact hc' _ (by omega)
      clear hc hc' s0 s1 s2 s3 s4
      go_wp2_with fail
      go_region_held3 (fun wx => (wx.cell? ⟨b, k * 5, none⟩ = some (.string K) ∧ wx.cell? ⟨b, k * 5 + 1, none⟩ = some (.bool G) ∧ wx.cell? ⟨b, k * 5 + 2, none⟩ = some (.string D) ∧ wx.cell? ⟨b, k * 5 + 3, none⟩ = some (.int .i64 A) ∧ wx.cell? ⟨b, k * 5 + 4, none⟩ = some (.int .i64 N)) ∧ wx.cell? ⟨b', k * 5, none⟩ = some (.string K) ∧ wx.cell? ⟨b', k * 5 + 1, none⟩ = some (.bool G) ∧ wx.cell? ⟨b', k * 5 + 2, none⟩ = some (.string D) ∧ wx.cell? ⟨b', k * 5 + 3, none⟩ = some (.int .i64 A) ∧ wx.cell? ⟨b', k * 5 + 4, none⟩ = some (.int .i64 N))
        (first | exact ⟨⟨c0, c1, c2, c3, c4⟩, e0, e1, e2, e3, e4⟩ | exact ⟨⟨(hb2.cell hbl).trans c0, (hb2.cell hbl).trans c1, (hb2.cell hbl).trans c2, (hb2.cell hbl).trans c3, (hb2.cell hbl).trans c4⟩, (hb2.cell hbl').trans e0, (hb2.cell hbl').trans e1, (hb2.cell hbl').trans e2, (hb2.cell hbl').trans e3, (hb2.cell hbl').trans e4⟩)
        ((go_at_call 14; refine (eqRec_same K G D A N _).mono ?_; rintro e w2 ⟨rfl, hb2⟩))
      have N2 : Hid (Below w.heap.size w w2) := HB.out.drew.trans (hb2.mono HB.out.size)
      clear hb2 c0 c1 c2 c3 c4 e0 e1 e2 e3 e4 HB
      go_wp2
      go_roundw
      case rel => exact ⟨k + 1, by omega, by go_num, N2.out⟩
      case measure => simp [intOf]; omega
    · have hlt' : ¬ (k : Int) < (n : Int) := by omega
      go_wp2
      go_ret
      exact ⟨rfl, HB.out⟩
/-- the marks of a row of records -/
def mkR (k0 p : Nat) : Value := if p % 5 = 0 ∨ p % 5 = 2 then .string (markB (k0 + p)) else if p % 5 = 1 then .bool ((k0 + p) % 3 == 0) else .int .i64 ((k0 + p : Nat) : Int)
def mkG (k0 k : Nat) (f : Nat → Value) (p : Nat) : Value := if p < k then mkR k0 p else f p
theorem mkG_put (k0 k : Nat) (f : Nat → Value) (v : Value) (hv : v = mkR k0 k) (p : Nat) : putF (mkG k0 k f) k v p = mkG k0 (k + 1) f p := by
  subst hv
  unfold putF mkG
  by_cases e : p = k
  · rw [if_pos e, if_pos (by omega), e]
  · rw [if_neg e]
    by_cases e2 : p < k
    · rw [if_pos e2, if_pos (by omega)]
    · rw [if_neg e2, if_neg (by omega)]
theorem mkR_0 (k0 k q : Nat) (h : q = k0 + k * 5) : Value.string (markB q) = mkR k0 (k * 5) := by unfold mkR; rw [if_pos (by omega), h]
theorem mkR_1 (k0 k q : Nat) (h : q = k0 + k * 5) : Value.bool ((q + 1) % 3 == 0) = mkR k0 (k * 5 + 1) := by unfold mkR; rw [if_neg (by omega), if_pos (by omega), h]; rfl
theorem mkR_2 (k0 k q : Nat) (h : q = k0 + k * 5) : Value.string (markB (q + 2)) = mkR k0 (k * 5 + 2) := by unfold mkR; rw [if_pos (by omega), h]; rfl
theorem mkR_3 (k0 k q : Nat) (h : q = k0 + k * 5) : Value.int .i64 ((q + 3 : Nat) : Int) = mkR k0 (k * 5 + 3) := by unfold mkR; rw [if_neg (by omega), if_neg (by omega), h]; rfl
theorem mkR_4 (k0 k q : Nat) (h : q = k0 + k * 5) : Value.int .i64 ((q + 4 : Nat) : Int) = mkR k0 (k * 5 + 4) := by unfold mkR; rw [if_neg (by omega), if_neg (by omega), h]; rfl
set_option maxRecDepth 20000 in
set_option maxHeartbeats 2000000 in
theorem heldRecs (a : Option Addr) (n cap k0 : Nat) (h1 : 1 ≤ k0) (hl : n ≤ 1048576) (hk : k0 ≤ 1048576) (w : World) (h : Rcs w a n cap (mkR k0)) :
    Calls Tryd.prog 19 #[.slice a n cap, .int .i64 k0] w fun e w' => e = .returned (.int .i64 ((k0 + 5 * n : Nat) : Int)) ∧ Below w.heap.size w w' := by
  have HH := hid h
  clear h
  go_enter Tryd.func19, Tryd.ntmps19
  go_wp2_with fail
  go_loopw [5, 1] (fun x y wr => ∃ (k : Nat), k ≤ n ∧ x = .int .i64 k ∧ y = .int .i64 ((k0 + 5 * k : Nat) : Int) ∧ Below w.heap.size w wr) (fun x _ _ => n - (intOf x).toNat)
  case atStart => exact ⟨0, Nat.zero_le _, rfl, rfl, Below.refl _ _⟩
  case round =>
    obtain ⟨k, hkl, rfl, rfl, hB⟩ := hrel
    have HB := hid hB
    clear hB
    by_cases hlt : k < n
    · have hlt' : (k : Int) < (n : Int) := by omega
      have i0 : (0 : Int) ≤ (k : Int) := by omega
      rcases (HH.out.below HB.out).2 with h00 | ⟨b, rfl, hbl, hc⟩
      · omega
      obtain ⟨q, hq⟩ : ∃ q, q = k0 + k * 5 := ⟨_, rfl⟩
      have c0 : wr.cell? ⟨b, k * 5, none⟩ = some (.string (markB q)) := by rw [mkR_0 k0 k q hq]; exact hc _ (by omega)
      have c1 : wr.cell? ⟨b, k * 5 + 1, none⟩ = some (.bool ((q + 1) % 3 == 0)) := by rw [mkR_1 k0 k q hq]; exact hc _ (by omega)
      have c2 : wr.cell? ⟨b, k * 5 + 2, none⟩ = some (.string (markB (q + 2))) := by rw [mkR_2 k0 k q hq]; exact hc _ (by omega)
      have c3 : wr.cell? ⟨b, k * 5 + 3, none⟩ = some (.int .i64 ((q + 3 : Nat) : Int)) := by rw [mkR_3 k0 k q hq]; exact hc _ (by omega)
      have c4 : wr.cell? ⟨b, k * 5 + 4, none⟩ = some (.int .i64 ((q + 4 : Nat) : Int)) := by rw [mkR_4 k0 k q hq]; exact hc _ (by omega)
      have hq1 : q ≤ 8388608 := by omega
      have M0 := fun w => hid (markT q (by omega) (by omega) w)
      have M2 := fun w => hid (markT (q + 2) (by omega) (by omega) w)
      obtain ⟨m0, hm0⟩ : ∃ m, m = markB q := ⟨_, rfl⟩
      obtain ⟨m2, hm2⟩ : ∃ m, m = markB (q + 2) := ⟨_, rfl⟩
      rw [← hm0] at c0 M0
      rw [← hm2] at c2 M2
      have eb : ((((q : Int) + 1) % 3) == 0) = ((q + 1) % 3 == 0) := by rw [Bool.eq_iff_iff]; simp only [beq_iff_eq]; omega
      obtain ⟨g1, hg1⟩ : ∃ g, g = ((q + 1) % 3 == 0) := ⟨_, rfl⟩
      rw [← hg1] at c1 eb
      rw [show k0 + 5 * k = q by omega]
      have HQ := hid hq
      rw [show ((q + 2 : Nat) : Int) = (q : Int) + 1 + 1 by omega] at M2
      rw [show ((q + 3 : Nat) : Int) = (q : Int) + 1 + 1 + 1 by omega] at c3
      rw [show ((q + 4 : Nat) : Int) = (q : Int) + 1 + 1 + 1 + 1 by omega] at c4
      clear hq hc hm0 hm2 hg1 HH
      go_wp2_with fail
      go_region_held3 (fun wx => wx.cell? ⟨b, k * 5, none⟩ = some (.string m0)) (first | exact c0 | exact (hb2.cell hbl).trans c0) ((go_at_call 39; refine (M0 _).out.mono ?_; rintro e w2 ⟨rfl, hb2⟩))
      have N2 : Hid (Below w.heap.size w w2) := HB.out.drew.trans (hb2.mono HB.out.size)
      have bl2 : b < w2.heap.size := Nat.lt_of_lt_of_le hbl hb2.size
      have d1 := (hb2.cell (p := ⟨b, k * 5 + 1, none⟩) hbl).trans c1
      have d2 := (hb2.cell (p := ⟨b, k * 5 + 2, none⟩) hbl).trans c2
      have d3 := (hb2.cell (p := ⟨b, k * 5 + 3, none⟩) hbl).trans c3
      have d4 := (hb2.cell (p := ⟨b, k * 5 + 4, none⟩) hbl).trans c4
      clear hb2 c0 c1 c2 c3 c4 HB
      go_wp2_with fail
      go_region_held3 (fun wx => wx.cell? ⟨b, k * 5 + 2, none⟩ = some (.string m2)) (first | exact d2 | exact (hb3.cell bl2).trans d2) ((go_at_call 39; refine (M2 _).out.mono ?_; rintro e w3 ⟨rfl, hb3⟩))
      have N3 : Hid (Below w.heap.size w w3) := N2.out.drew.trans (hb3.mono N2.out.size)
      have f3 := (hb3.cell (p := ⟨b, k * 5 + 3, none⟩) bl2).trans d3
      have f4 := (hb3.cell (p := ⟨b, k * 5 + 4, none⟩) bl2).trans d4
      clear hb3 d1 d2 d3 d4 N2
      go_wp2
      go_roundw
      case rel => exact ⟨k + 1, by omega, by go_num, by rw [show k0 + 5 * (k + 1) = q + 4 + 1 by have := HQ.out; omega]; go_num, N3.out⟩
      case measure => simp [intOf]; omega
    · have hke : k = n := by omega
      subst hke
      have hlt' : ¬ (k : Int) < (k : Int) := by omega
      go_wp2
      go_ret
      exact ⟨rfl, HB.out⟩
set_option maxRecDepth 20000 in
set_option maxHeartbeats 2000000 in
theorem markRecs0 (a : Option Addr) (cap k0 : Nat) (w : World) : Calls Tryd.prog 18 #[.slice a 0 cap, .int .i64 k0] w fun e w' => e = .returned (.int .i64 k0) ∧ w' = w := by
  go_enter Tryd.func18, Tryd.ntmps18
  go_wp2
  go_loopw [5, 1] (fun x y wr => x = .int .i64 0 ∧ y = .int .i64 k0 ∧ wr = w) (fun _ _ _ => 0)
  case atStart => exact ⟨rfl, rfl, rfl⟩
  case round =>
    obtain ⟨rfl, rfl, rfl⟩ := hrel
    go_wp2
    go_ret
    exact ⟨rfl, rfl⟩
set_option maxRecDepth 20000 in
set_option maxHeartbeats 2000000 in
theorem markRecs (b n cap k0 : Nat) (t : TypeId) (N : Nat) (hN : 5 * n ≤ N) (f : Nat → Value) (h1 : 1 ≤ k0) (hl : n ≤ 1048576) (hk : k0 ≤ 1048576) (w : World) (h : FRow w b t N f) :
    Calls Tryd.prog 18 #[.slice (some ⟨b, 0, none⟩) n cap, .int .i64 k0] w fun e w' => e = .returned (.int .i64 ((k0 + 5 * n : Nat) : Int)) ∧ FRow w' b t N (mkG k0 (5 * n) f) ∧ w.grownBy w' (some b) := by
  have HH := hid h
  clear h
  go_enter Tryd.func18, Tryd.ntmps18
  go_wp2_with fail
  go_loopw [5, 1] (fun x y wr => ∃ (k : Nat), k ≤ n ∧ x = .int .i64 k ∧ y = .int .i64 ((k0 + 5 * k : Nat) : Int) ∧ FRow wr b t N (mkG k0 (5 * k) f) ∧ w.grownBy wr (some b)) (fun x _ _ => n - (intOf x).toNat)
  case atStart => exact ⟨0, Nat.zero_le _, rfl, rfl, HH.out.congr fun p _ => by unfold mkG; rw [if_neg (by omega)], below_grown (Below.refl _ _) _⟩
  case round =>
    obtain ⟨k, hkl, rfl, rfl, hF, hG⟩ := hrel
    have HF := hid hF
    have HG := hid hG
    clear hF hG HH
    by_cases hlt : k < n
    · have hlt' : (k : Int) < (n : Int) := by omega
      have i0 : (0 : Int) ≤ (k : Int) := by omega
      obtain ⟨q, hq⟩ : ∃ q, q = k0 + k * 5 := ⟨_, rfl⟩
      rw [show mkG k0 (5 * k) f = mkG k0 (k * 5) f by rw [Nat.mul_comm]] at HF
      have hq1 : q ≤ 8388608 := by omega
      have M0 := fun w => hid (markT q (by omega) (by omega) w)
      have M2 := fun w => hid (markT (q + 2) (by omega) (by omega) w)
      have r0 := hid (mkR_0 k0 k q hq)
      have r1 := hid (mkR_1 k0 k q hq)
      have r2 := hid (mkR_2 k0 k q hq)
      have r3 := hid (mkR_3 k0 k q hq)
      have r4 := hid (mkR_4 k0 k q hq)
      obtain ⟨m0, hm0⟩ : ∃ m, m = markB q := ⟨_, rfl⟩
      obtain ⟨m2, hm2⟩ : ∃ m, m = markB (q + 2) := ⟨_, rfl⟩
      rw [← hm0] at r0 M0
      rw [← hm2] at r2 M2
      have eb : ((((q : Int) + 1) % 3) == 0) = ((q + 1) % 3 == 0) := by rw [Bool.eq_iff_iff]; simp only [beq_iff_eq]; omega
      obtain ⟨g1, hg1⟩ : ∃ g, g = ((q + 1) % 3 == 0) := ⟨_, rfl⟩
      rw [← hg1] at r1 eb
      rw [show k0 + 5 * k = q by omega]
      have HQ := hid hq
      rw [show ((q + 2 : Nat) : Int) = (q : Int) + 1 + 1 by omega] at M2
      rw [show ((q + 3 : Nat) : Int) = (q : Int) + 1 + 1 + 1 by omega] at r3
      rw [show ((q + 4 : Nat) : Int) = (q : Int) + 1 + 1 + 1 + 1 by omega] at r4
      have lt0 := HF.out.lt
      clear hq hm0 hm2 hg1
      go_wp2_with fail
      refine (M0 _).out.mono ?_
      rintro e u1 ⟨rfl, hb1⟩
      have F1 : Hid (FRow u1 b t N (mkG k0 (k * 5) f)) := HF.out.below hb1 lt0
      have G1 : Hid (w.grownBy u1 (some b)) := grown_trans HG.out (below_grown hb1 _)
      clear hb1 HF HG
      have F2 : Hid (FRow (u1.setCell ⟨b, k * 5, none⟩ (.string m0)) b t N (mkG k0 (k * 5 + 1) f)) := (F1.out.set (k * 5) (.string m0)).congr (fun p _ => mkG_put k0 (k * 5) f _ r0.out p)
      obtain ⟨W1, hW1⟩ : ∃ W1, W1 = u1.setCell ⟨b, k * 5, none⟩ (.string m0) := ⟨_, rfl⟩
      rw [← hW1] at F2
      have F3 : Hid (FRow (W1.setCell ⟨b, k * 5 + 1, none⟩ (.bool g1)) b t N (mkG k0 (k * 5 + 1 + 1) f)) := (F2.out.set (k * 5 + 1) (.bool g1)).congr (fun p _ => mkG_put k0 (k * 5 + 1) f _ r1.out p)
      obtain ⟨W2, hW2⟩ : ∃ W2, W2 = W1.setCell ⟨b, k * 5 + 1, none⟩ (.bool g1) := ⟨_, rfl⟩
      rw [← hW2] at F3
      have G3 : Hid (w.grownBy W2 (some b)) := by show World.grownBy _ _ _; rw [hW2, hW1]; exact grown_trans (grown_trans G1.out grown_set) grown_set
      have lt2 := F3.out.lt
      have y0 := F1.out.cell (p := k * 5) (by omega)
      have g0 := F1.out.free (k * 5)
      have y1 := F2.out.cell (p := k * 5 + 1) (by omega)
      have gg1 := F2.out.free (k * 5 + 1)
      generalize mkG k0 (k * 5) f (k * 5) = v0 at y0
      generalize mkG k0 (k * 5 + 1) f (k * 5 + 1) = v1 at y1
      have HW1 := hid hW1
      have HW2 := hid hW2
      clear hW1 hW2 F1 F2 G1
      go_upto_region 6 with fail
      rw [← HW1.out]
      go_wp2_with fail
      rw [← HW2.out]
      refine (M2 _).out.mono ?_
      rintro e u3 ⟨rfl, hb3⟩
      clear y0 g0 y1 gg1 HW1 HW2
      have F4 : Hid (FRow u3 b t N (mkG k0 (k * 5 + 2) f)) := F3.out.below hb3 lt2
      have G4 : Hid (w.grownBy u3 (some b)) := grown_trans G3.out (below_grown hb3 _)
      clear hb3 F3 G3
      have F5 : Hid (FRow (u3.setCell ⟨b, k * 5 + 2, none⟩ (.string m2)) b t N (mkG k0 (k * 5 + 2 + 1) f)) := (F4.out.set (k * 5 + 2) (.string m2)).congr (fun p _ => mkG_put k0 (k * 5 + 2) f _ r2.out p)
      obtain ⟨W3, hW3⟩ : ∃ W1, W1 = u3.setCell ⟨b, k * 5 + 2, none⟩ (.string m2) := ⟨_, rfl⟩
      rw [← hW3] at F5
      have F6 : Hid (FRow (W3.setCell ⟨b, k * 5 + 3, none⟩ (.int .i64 ((q : Int) + 1 + 1 + 1))) b t N (mkG k0 (k * 5 + 3 + 1) f)) := (F5.out.set (k * 5 + 3) _).congr (fun p _ => mkG_put k0 (k * 5 + 3) f _ r3.out p)
      obtain ⟨W4, hW4⟩ : ∃ W2, W2 = W3.setCell ⟨b, k * 5 + 3, none⟩ (.int .i64 ((q : Int) + 1 + 1 + 1)) := ⟨_, rfl⟩
      rw [← hW4] at F6
      have F7 : Hid (FRow (W4.setCell ⟨b, k * 5 + 4, none⟩ (.int .i64 ((q : Int) + 1 + 1 + 1 + 1))) b t N (mkG k0 (5 * (k + 1)) f)) := by
        have := (F6.out.set (k * 5 + 4) (.int .i64 ((q : Int) + 1 + 1 + 1 + 1))).congr (fun p _ => mkG_put k0 (k * 5 + 4) f _ r4.out p)
        rw [show k * 5 + 4 + 1 = 5 * (k + 1) by omega] at this; exact this
      have G7 : Hid (w.grownBy (W4.setCell ⟨b, k * 5 + 4, none⟩ (.int .i64 ((q : Int) + 1 + 1 + 1 + 1))) (some b)) := by
        show World.grownBy _ _ _
        rw [hW4, hW3]
        exact grown_trans (grown_trans (grown_trans G4.out grown_set) grown_set) grown_set
      have y2 := F4.out.cell (p := k * 5 + 2) (by omega)
      have g2 := F4.out.free (k * 5 + 2)
      have y3 := F5.out.cell (p := k * 5 + 3) (by omega)
      have g3 := F5.out.free (k * 5 + 3)
      have y4 := F6.out.cell (p := k * 5 + 4) (by omega)
      have g4 := F6.out.free (k * 5 + 4)
      generalize mkG k0 (k * 5 + 2) f (k * 5 + 2) = v2 at y2
      generalize mkG k0 (k * 5 + 2 + 1) f (k * 5 + 3) = v3 at y3
      generalize mkG k0 (k * 5 + 3 + 1) f (k * 5 + 4) = v4 at y4
      have HW3 := hid hW3
      have HW4 := hid hW4
      clear hW3 hW4 F4 F5 F6 G4
      go_upto_region 10 with fail
      rw [← HW3.out]
      go_upto_region 12 with fail
      rw [← HW4.out]
      go_wp2
      go_roundw
      case rel => exact ⟨k + 1, by omega, by go_num, by rw [show k0 + 5 * (k + 1) = q + 4 + 1 by have := HQ.out; omega]; go_num, F7.out, G7.out⟩
      case measure => simp [intOf]; omega
    · have hke : k = n := by omega
      subst hke
      have hlt' : ¬ (k : Int) < (k : Int) := by omega
      go_wp2
      go_ret
      exact ⟨rfl, HF.out, HG.out⟩
end Go.Proofs.YtefnoeaehglihaaDoor
