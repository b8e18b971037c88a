import Derived.Test.YthdmaamocejodaaFRow
import Derived.Test.YthdmaamocejodaaInts
import Derived.Test.YthdmaamocejodaaRngMath
import Derived.Deep.RegionHeld3
import Derived.Deep.CutRange
namespace Go.Proofs.Ythdmaamocejodaa
open Go.RowKit
/-! Slices of ranges of shards: what the laws do with them. -/
def Rngs (w : World) (a : Option Addr) (n cap : Nat) (f : Nat → Int) : Prop :=
  n ≤ cap ∧ (n = 0 ∨ ∃ b, a = some ⟨b, 0, none⟩ ∧ b < w.heap.size ∧ ∀ p, p < 4 * n → w.cell? ⟨b, p, none⟩ = some (.int .i64 (f p)))
theorem Rngs.below {w w' : World} {a : Option Addr} {n cap : Nat} {f : Nat → Int} (h : Rngs w a n cap f) (hb : Below w.heap.size w w') : Rngs w' a n cap f := by
  refine ⟨h.1, ?_⟩
  rcases h.2 with h0 | ⟨b, rfl, h1, h2⟩
  · exact Or.inl h0
  · exact Or.inr ⟨b, rfl, Nat.lt_of_lt_of_le h1 hb.size, fun p hp => (hb.cell (p := ⟨b, p, none⟩) h1).trans (h2 p hp)⟩
abbrev rgv (x0 x1 x2 x3 : Int) : Value := .agg #[.int .i64 x0, .int .i64 x1, .int .i64 x2, .int .i64 x3]
abbrev rga (x0 x1 x2 x3 : Int) : Array Value := #[.int .i64 x0, .int .i64 x1, .int .i64 x2, .int .i64 x3]
theorem bal5 {w w' : World} (h : Below w.heap.size w w') (o : Obj) : Below w.heap.size w (w'.alloc o) := h.alloc h.size o
set_option maxRecDepth 20000 in
set_option maxHeartbeats 2000000 in
theorem eqRg (x0 x1 x2 x3 : Int) (w : World) :
    Calls Try.prog 24 #[rgv x0 x1 x2 x3, rgv x0 x1 x2 x3] w fun e w' => e = .returned (.bool true) ∧ Below w.heap.size w w' := by
  have d0 : (x0 != x0) = false := by simp
  have d1 : (x1 != x1) = false := by simp
  have d2 : (x2 != x2) = false := by simp
  have d3 : (x3 != x3) = false := by simp
  go_enter Try.func24, Try.ntmps24
  go_wp2
  go_ret
  exact ⟨rfl, bal5 (bal5 (Below.refl _ _) _) _⟩
set_option maxRecDepth 20000 in
set_option maxHeartbeats 2000000 in
theorem eqRgs (a : Option Addr) (n cap : Nat) (a' : Option Addr) (cap' : Nat) (f f' : Nat → Int) (hl : n ≤ 1048576) (he : ∀ p, p < 4 * n → f p = f' p) (w : World) (h : Rngs w a n cap f) (h' : Rngs w a' n cap' f') :
    Calls Try.prog 18 #[.slice a n cap, .slice a' n cap'] w fun e w' => e = .returned (.bool true) ∧ Below w.heap.size w w' := by
  have HH := hid h
  have HH' := hid h'
  have HE := hid he
  have dn : ((n : Int) != (n : Int)) = false := by simp
  clear h h' he
  go_enter Try.func18, Try.ntmps18
  go_wp2_with fail
  go_loopw [5] (fun y wr => ∃ (k : Nat), k ≤ n ∧ y = .int .i64 k ∧ Below w.heap.size w wr) (fun y _ => n - (intOf y).toNat)
  case atStart => exact ⟨0, Nat.zero_le _, rfl, Below.refl _ _⟩
  case round =>
    obtain ⟨k, hk, rfl, hB⟩ := hrel
    have HB := hid hB
    clear hB
    by_cases hlt : k < n
    · have hlt' : (k : Int) < (n : Int) := by omega
      have k0 : (0 : Int) ≤ (k : Int) := by omega
      rcases (HH.out.below HB.out).2 with h00 | ⟨b, rfl, hbl, hc⟩
      · omega
      rcases (HH'.out.below HB.out).2 with h00 | ⟨b', rfl, hbl', hc'⟩
      · omega
      obtain ⟨x0, hx0⟩ : ∃ x, x = f (k * 4) := ⟨_, rfl⟩
      obtain ⟨x1, hx1⟩ : ∃ x, x = f (k * 4 + 1) := ⟨_, rfl⟩
      obtain ⟨x2, hx2⟩ : ∃ x, x = f (k * 4 + 2) := ⟨_, rfl⟩
      obtain ⟨x3, hx3⟩ : ∃ x, x = f (k * 4 + 3) := ⟨_, rfl⟩
      have c0 : wr.cell? ⟨b, k * 4, none⟩ = some (.int .i64 x0) := by rw [hx0]; exact hc _ (by omega)
      have c1 : wr.cell? ⟨b, k * 4 + 1, none⟩ = some (.int .i64 x1) := by rw [hx1]; exact hc _ (by omega)
      have c2 : wr.cell? ⟨b, k * 4 + 2, none⟩ = some (.int .i64 x2) := by rw [hx2]; exact hc _ (by omega)
      have c3 : wr.cell? ⟨b, k * 4 + 3, none⟩ = some (.int .i64 x3) := by rw [hx3]; exact hc _ (by omega)
      have e0 : wr.cell? ⟨b', k * 4, none⟩ = some (.int .i64 x0) := by rw [hx0, HE.out _ (by omega)]; exact hc' _ (by omega)
      have e1 : wr.cell? ⟨b', k * 4 + 1, none⟩ = some (.int .i64 x1) := by rw [hx1, HE.out _ (by omega)]; exact hc' _ (by omega)
      have e2 : wr.cell? ⟨b', k * 4 + 2, none⟩ = some (.int .i64 x2) := by rw [hx2, HE.out _ (by omega)]; exact hc' _ (by omega)
      have e3 : wr.cell? ⟨b', k * 4 + 3, none⟩ = some (.int .i64 x3) := by rw [hx3, HE.out _ (by omega)]; exact hc' _ (by omega)
      clear hc hc' hx0 hx1 hx2 hx3
      go_wp2_with fail
      go_region_held3 (fun wx => wx.cell? ⟨b, k * 4, none⟩ = some (.int .i64 x0) ∧ wx.cell? ⟨b, k * 4 + 1, none⟩ = some (.int .i64 x1) ∧ wx.cell? ⟨b, k * 4 + 2, none⟩ = some (.int .i64 x2) ∧ wx.cell? ⟨b, k * 4 + 3, none⟩ = some (.int .i64 x3) ∧ wx.cell? ⟨b', k * 4, none⟩ = some (.int .i64 x0) ∧ wx.cell? ⟨b', k * 4 + 1, none⟩ = some (.int .i64 x1) ∧ wx.cell? ⟨b', k * 4 + 2, none⟩ = some (.int .i64 x2) ∧ wx.cell? ⟨b', k * 4 + 3, none⟩ = some (.int .i64 x3)) (first | exact ⟨y0, y1, y2, y3, z0, z1, z2, z3⟩ | exact ⟨c0, c1, c2, c3, e0, e1, e2, e3⟩ | (go_keep; done)) ((go_at_call 24; refine (eqRg x0 x1 x2 x3 _).mono ?_; rintro e w2 ⟨rfl, hb2⟩; have y0 := (hb2.cell (p := ⟨b, k * 4, none⟩) hbl).trans c0; have y1 := (hb2.cell (p := ⟨b, k * 4 + 1, none⟩) hbl).trans c1; have y2 := (hb2.cell (p := ⟨b, k * 4 + 2, none⟩) hbl).trans c2; have y3 := (hb2.cell (p := ⟨b, k * 4 + 3, none⟩) hbl).trans c3; have z0 := (hb2.cell (p := ⟨b', k * 4, none⟩) hbl').trans e0; have z1 := (hb2.cell (p := ⟨b', k * 4 + 1, none⟩) hbl').trans e1; have z2 := (hb2.cell (p := ⟨b', k * 4 + 2, none⟩) hbl').trans e2; have z3 := (hb2.cell (p := ⟨b', k * 4 + 3, none⟩) hbl').trans e3))
      have N2 : Hid (Below w.heap.size w w2) := HB.out.drew.trans (hb2.mono HB.out.size)
      clear hb2 y0 y1 y2 y3 z0 z1 z2 z3 c0 c1 c2 c3 e0 e1 e2 e3 HB
      go_wp2
      go_roundw
      case rel => exact ⟨k + 1, by omega, by go_num, N2.out⟩
      case measure => simp [intOf]; omega
    · have hlt' : ¬ (k : Int) < (n : Int) := by omega
      go_wp2
      go_ret
      exact ⟨rfl, HB.out⟩
/-- the cells of a row of ranges, some of them marked -/
def mkF (k0 k : Nat) (f : Nat → Value) (p : Nat) : Value := if p < k then .int .i64 ((k0 + p : Nat) : Int) else f p
theorem mkF_put (k0 k : Nat) (f : Nat → Value) (p : Nat) : putF (mkF k0 k f) k (.int .i64 ((k0 + k : Nat) : Int)) p = mkF k0 (k + 1) f p := by
  unfold putF mkF
  by_cases e : p = k
  · rw [if_pos e, if_pos (by omega), e]
  · rw [if_neg e]
    by_cases e2 : p < k
    · rw [if_pos e2, if_pos (by omega)]
    · rw [if_neg e2, if_neg (by omega)]
set_option maxRecDepth 20000 in
set_option maxHeartbeats 2000000 in
theorem markRgs0 (a : Option Addr) (cap k0 : Nat) (w : World) : Calls Try.prog 19 #[.slice a 0 cap, .int .i64 k0] w fun e w' => e = .returned (.int .i64 k0) ∧ w' = w := by
  go_enter Try.func19, Try.ntmps19
  go_wp2
  go_loopw [5, 1] (fun x y wr => x = .int .i64 0 ∧ y = .int .i64 k0 ∧ wr = w) (fun _ _ _ => 0)
  case atStart => exact ⟨rfl, rfl, rfl⟩
  case round =>
    obtain ⟨rfl, rfl, rfl⟩ := hrel
    go_wp2
    go_ret
    exact ⟨rfl, rfl⟩
set_option maxRecDepth 20000 in
set_option maxHeartbeats 2000000 in
theorem markRgs (b n cap k0 : Nat) (t : TypeId) (N : Nat) (hN : 4 * n ≤ N) (f : Nat → Value) (hl : n ≤ 1048576) (hk : k0 ≤ 1048576) (w : World) (h : FRow w b t N f) :
    Calls Try.prog 19 #[.slice (some ⟨b, 0, none⟩) n cap, .int .i64 k0] w fun e w' => e = .returned (.int .i64 ((k0 + 4 * n : Nat) : Int)) ∧ FRow w' b t N (mkF k0 (4 * n) f) ∧ w.grownBy w' (some b) := by
  have HH := hid h
  clear h
  go_enter Try.func19, Try.ntmps19
  go_wp2_with fail
  go_loopw [5, 1] (fun x y wr => ∃ (k : Nat), k ≤ n ∧ x = .int .i64 k ∧ y = .int .i64 ((k0 + 4 * k : Nat) : Int) ∧ FRow wr b t N (mkF k0 (4 * k) f) ∧ w.grownBy wr (some b)) (fun x _ _ => n - (intOf x).toNat)
  case atStart => exact ⟨0, Nat.zero_le _, rfl, rfl, HH.out.congr fun p _ => by unfold mkF; rw [if_neg (by omega)], below_grown (Below.refl _ _) _⟩
  case round =>
    obtain ⟨k, hkl, rfl, rfl, hF, hG⟩ := hrel
    have HF := hid hF
    have HG := hid hG
    clear hF hG HH
    by_cases hlt : k < n
    · have hlt' : (k : Int) < (n : Int) := by omega
      have i0 : (0 : Int) ≤ (k : Int) := by omega
      obtain ⟨q, hq⟩ : ∃ q, q = k0 + 4 * k := ⟨_, rfl⟩
      rw [show mkF k0 (4 * k) f = mkF k0 (k * 4) f by rw [Nat.mul_comm]] at HF
      have F1 : Hid (FRow (wr.setCell ⟨b, k * 4, none⟩ (.int .i64 (q : Int))) b t N (mkF k0 (k * 4 + 1) f)) := by
        have := (HF.out.set (k * 4) (.int .i64 ((k0 + k * 4 : Nat) : Int))).congr (fun p _ => mkF_put k0 (k * 4) f p)
        rw [show k0 + k * 4 = q by omega] at this; exact this
      obtain ⟨W1, hW1⟩ : ∃ W1, W1 = wr.setCell ⟨b, k * 4, none⟩ (.int .i64 (q : Int)) := ⟨_, rfl⟩
      rw [← hW1] at F1
      have F2 : Hid (FRow (W1.setCell ⟨b, k * 4 + 1, none⟩ (.int .i64 ((q : Int) + 1))) b t N (mkF k0 (k * 4 + 1 + 1) f)) := by
        have := (F1.out.set (k * 4 + 1) (.int .i64 ((k0 + (k * 4 + 1) : Nat) : Int))).congr (fun p _ => mkF_put k0 (k * 4 + 1) f p)
        rw [show ((k0 + (k * 4 + 1) : Nat) : Int) = (q : Int) + 1 by omega] at this; exact this
      obtain ⟨W2, hW2⟩ : ∃ W2, W2 = W1.setCell ⟨b, k * 4 + 1, none⟩ (.int .i64 ((q : Int) + 1)) := ⟨_, rfl⟩
      rw [← hW2] at F2
      have F3 : Hid (FRow (W2.setCell ⟨b, k * 4 + 2, none⟩ (.int .i64 ((q : Int) + 1 + 1))) b t N (mkF k0 (k * 4 + 2 + 1) f)) := by
        have := (F2.out.set (k * 4 + 2) (.int .i64 ((k0 + (k * 4 + 2) : Nat) : Int))).congr (fun p _ => mkF_put k0 (k * 4 + 2) f p)
        rw [show ((k0 + (k * 4 + 2) : Nat) : Int) = (q : Int) + 1 + 1 by omega] at this; exact this
      obtain ⟨W3, hW3⟩ : ∃ W3, W3 = W2.setCell ⟨b, k * 4 + 2, none⟩ (.int .i64 ((q : Int) + 1 + 1)) := ⟨_, rfl⟩
      rw [← hW3] at F3
      have F4 : Hid (FRow (W3.setCell ⟨b, k * 4 + 3, none⟩ (.int .i64 ((q : Int) + 1 + 1 + 1))) b t N (mkF k0 (4 * (k + 1)) f)) := by
        have := (F3.out.set (k * 4 + 3) (.int .i64 ((k0 + (k * 4 + 3) : Nat) : Int))).congr (fun p _ => mkF_put k0 (k * 4 + 3) f p)
        rw [show ((k0 + (k * 4 + 3) : Nat) : Int) = (q : Int) + 1 + 1 + 1 by omega, show k * 4 + 3 + 1 = 4 * (k + 1) by omega] at this; exact this
      have G4 : Hid (w.grownBy (W3.setCell ⟨b, k * 4 + 3, none⟩ (.int .i64 ((q : Int) + 1 + 1 + 1))) (some b)) := by
        rw [hW3, hW2, hW1]
        exact grown_trans (grown_trans (grown_trans (grown_trans HG.out grown_set) grown_set) grown_set) grown_set
      have HW1 := hid hW1
      have HW2 := hid hW2
      have HW3 := hid hW3
      clear hW1 hW2 hW3
      have y0 := HF.out.cell (p := k * 4) (by omega)
      have g0 := HF.out.free (k * 4)
      have y1 := F1.out.cell (p := k * 4 + 1) (by omega)
      have g1 := F1.out.free (k * 4 + 1)
      have y2 := F2.out.cell (p := k * 4 + 2) (by omega)
      have g2 := F2.out.free (k * 4 + 2)
      have y3 := F3.out.cell (p := k * 4 + 3) (by omega)
      have g3 := F3.out.free (k * 4 + 3)
      generalize mkF k0 (k * 4) f (k * 4) = v0 at y0
      generalize mkF k0 (k * 4 + 1) f (k * 4 + 1) = v1 at y1
      generalize mkF k0 (k * 4 + 1 + 1) f (k * 4 + 2) = v2 at y2
      generalize mkF k0 (k * 4 + 2 + 1) f (k * 4 + 3) = v3 at y3
      have hq1 : q ≤ 8388608 := by omega
      rw [← hq]
      have HQ := hid hq
      clear hq HF F1 F2 F3 HG
      go_upto_region 6 with fail
      rw [← HW1.out]
      go_upto_region 8 with fail
      rw [← HW2.out]
      go_upto_region 10 with fail
      rw [← HW3.out]
      go_wp2
      go_roundw
      case rel => exact ⟨k + 1, by omega, by go_num, by rw [show k0 + 4 * (k + 1) = q + 3 + 1 by have := HQ.out; omega]; go_num, F4.out, G4.out⟩
      case measure => simp [intOf]; omega
    · have hke : k = n := by omega
      subst hke
      have hlt' : ¬ (k : Int) < (k : Int) := by omega
      go_wp2
      go_ret
      exact ⟨rfl, HF.out, HG.out⟩
set_option maxRecDepth 20000 in
set_option maxHeartbeats 2000000 in
theorem heldRgs (a : Option Addr) (n cap k0 : Nat) (hl : n ≤ 1048576) (hk : k0 ≤ 1048576) (w : World) (h : Rngs w a n cap (fun p => ((k0 + p : Nat) : Int))) :
    Calls Try.prog 20 #[.slice a n cap, .int .i64 k0] w fun e w' => e = .returned (.int .i64 ((k0 + 4 * n : Nat) : Int)) ∧ w' = w := by
  have HH := hid h
  clear h
  go_enter Try.func20, Try.ntmps20
  go_wp2_with fail
  go_loopw [5, 1] (fun x y wr => ∃ (k : Nat), k ≤ n ∧ x = .int .i64 k ∧ y = .int .i64 ((k0 + 4 * k : Nat) : Int) ∧ wr = w) (fun x _ _ => n - (intOf x).toNat)
  case atStart => exact ⟨0, Nat.zero_le _, rfl, rfl, rfl⟩
  case round =>
    obtain ⟨k, hkl, rfl, rfl, rfl⟩ := hrel
    by_cases hlt : k < n
    · have hlt' : (k : Int) < (n : Int) := by omega
      have i0 : (0 : Int) ≤ (k : Int) := by omega
      rcases HH.out.2 with h00 | ⟨b, rfl, hbl, hc⟩
      · omega
      obtain ⟨q, hq⟩ : ∃ q, q = k0 + 4 * k := ⟨_, rfl⟩
      have c0 : wr.cell? ⟨b, k * 4, none⟩ = some (.int .i64 (q : Nat)) := by have h9 := hc (k * 4) (by omega); dsimp only at h9; rw [h9, show k0 + k * 4 = q by omega]
      have c1 : wr.cell? ⟨b, k * 4 + 1, none⟩ = some (.int .i64 (q + 1 : Nat)) := by have h9 := hc (k * 4 + 1) (by omega); dsimp only at h9; rw [h9, show k0 + (k * 4 + 1) = q + 1 by omega]
      have c2 : wr.cell? ⟨b, k * 4 + 2, none⟩ = some (.int .i64 (q + 2 : Nat)) := by have h9 := hc (k * 4 + 2) (by omega); dsimp only at h9; rw [h9, show k0 + (k * 4 + 2) = q + 2 by omega]
      have c3 : wr.cell? ⟨b, k * 4 + 3, none⟩ = some (.int .i64 (q + 3 : Nat)) := by have h9 := hc (k * 4 + 3) (by omega); dsimp only at h9; rw [h9, show k0 + (k * 4 + 3) = q + 3 by omega]
      have hq1 : q ≤ 8388608 := by omega
      rw [← hq]
      have HQ := hid hq
      clear hq hc HH
      go_wp2
      go_roundw
      case rel => exact ⟨k + 1, by omega, by go_num, by rw [show k0 + 4 * (k + 1) = q + 3 + 1 by have := HQ.out; omega]; go_num, by first | rfl | trivial⟩
      case measure => simp [intOf]; omega
    · have hke : k = n := by omega
      subst hke
      have hlt' : ¬ (k : Int) < (k : Int) := by omega
      go_wp2
      go_ret
      exact ⟨rfl, rfl⟩
end Go.Proofs.Ythdmaamocejodaa
