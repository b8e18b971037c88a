import Derived.Test.YtmhkelfmciepaaaGrI3
namespace Go.Proofs.Ytmhkelfmciepaaa
open Go.RowKit
set_option linter.unusedVariables false
/-! The program's gather. -/
theorem Kq.setNew {w W : World} (h : Kq w W) {a : Addr} (v : Value) (hX : w.heap.size ≤ a.block) : Kq w (W.setCell a v) :=
  ⟨by simp [World.setCell]; exact h.size, fun g t cs x y z r => (h.row g t cs x y z r).other _ _ (by have := r.lt; omega)⟩
theorem GpL.asideC {w : World} {B gb N : Nat} {s : Gst} {pb : Nat → Nat} {la : Nat → Option Addr} {lc mb : Nat → Nat} (h : GpL w B gb N s pb la lc mb) {X : Nat} {t : TypeId} {cs : Array Value} (hX : RowAt w X t cs) (t1 : 63 ≠ t) (t2 : 65 ≠ t) (t3 : 46 ≠ t) (t4 : 2 ≠ t) (i : Nat) (v : Value) : GpL (w.setCell ⟨X, i, none⟩ v) B gb N s pb la lc mb := by
  refine h.rows fun g t' ds hr ho => hr.other _ _ ?_
  rcases ho with rfl | rfl | rfl | rfl
  · exact row_apart hr hX t1
  · exact row_apart hr hX t2
  · exact row_apart hr hX t3
  · exact row_apart hr hX t4
def askF (A : Nat → Bool) (p : Nat) : Value := .bool (A p)
theorem askF_put (A : Nat → Bool) (q p : Nat) : putF (askF A) q (.bool true) p = askF (gAsked A q) p := by
  unfold putF askF gAsked
  by_cases e : p = q
  · simp [e]
  · simp [e]
set_option maxRecDepth 20000 in
set_option maxHeartbeats 4000000 in
theorem iGather (w0 : World) (gb N k : Nat) (hN : N ≤ 9) (hk : k < N) (s : Gst) (pb : Nat → Nat) (la : Nat → Option Addr) (lc mb : Nat → Nat) (hT : ∀ j, j < N → (s j).lg.length ≤ 500) (pa : Option Addr) (pc : Nat) (pe : List Int) (hpl : pe.length ≤ 1048576) (hall : pe.all (gIn N) = true) (hp : Ints .i64 w0 pa pe.length pc pe) (w : World) (h : GpL w w0.heap.size gb N s pb la lc mb) (hb : Below w0.heap.size w0 w) :
    Calls Try.prog 36 #[.pointer (some ⟨pb k, 0, none⟩), .slice pa pe.length pc] w fun e w' => e = .returned (.int .i64 ((gGath k pe (fun j => decide (j = k)) s 1).2 : Int)) ∧ GpL w' w0.heap.size gb N (gGath k pe (fun j => decide (j = k)) s 1).1 pb la lc mb ∧ Kq w w' ∧ Below w0.heap.size w0 w' := by
  obtain ⟨RG, hRG⟩ : ∃ R, R = gGath k pe (fun j => decide (j = k)) s 1 := ⟨_, rfl⟩
  rw [← hRG]
  have HRG := hid hRG
  have HALL := hid hall
  have HP := hid hp
  have HT := hid hT
  obtain ⟨X5, hX5⟩ : ∃ X, X = w.heap.size := ⟨_, rfl⟩
  obtain ⟨W1, hW1⟩ : ∃ W, W = w.alloc (.cells #[.bool false, .bool false, .bool false, .bool false, .bool false, .bool false, .bool false, .bool false, .bool false] 76) := ⟨_, rfl⟩
  have b1 : Below w.heap.size w W1 := by rw [hW1]; exact (Below.refl _ _).alloc (Nat.le_refl _) _
  have F1 : FRow W1 X5 76 9 (askF fun _ => false) := by
    rw [hW1, hX5]
    refine FRow.of (RowAt.new _ _ _) rfl fun p hp => ?_
    rcases (by omega : p = 0 ∨ p = 1 ∨ p = 2 ∨ p = 3 ∨ p = 4 ∨ p = 5 ∨ p = 6 ∨ p = 7 ∨ p = 8) with rfl | rfl | rfl | rfl | rfl | rfl | rfl | rfl | rfl <;> rfl
  have G1 := hid (h.below b1)
  have K1 : Kq w W1 := (Kq.refl w).below b1
  have B1 := hb.trans (b1.mono hb.size)
  have hw0 := hb.size
  have p6 : W1.cell? ⟨pb k, 6, none⟩ = some (.int .i64 (k : Int)) := (G1.out.mem k hk).cell 6
  have x0 := F1.cell (p := k) (by omega)
  have fx := F1.free k
  obtain ⟨W2, hW2⟩ : ∃ W, W = W1.setCell ⟨X5, k, none⟩ (.bool true) := ⟨_, rfl⟩
  have F2 : Hid (FRow W2 X5 76 9 (askF fun j => decide (j = k))) := by
    rw [hW2]
    refine (F1.set k _).congr fun p _ => ?_
    rw [askF_put]
    unfold askF gAsked
    rw [Bool.or_false]
  have G2 : Hid (GpL W2 w0.heap.size gb N s pb la lc mb) := by
    obtain ⟨cs, hr, _⟩ := F1
    rw [hW2]
    exact G1.out.asideC hr (by decide) (by decide) (by decide) (by decide) _ _
  have K2 : Hid (Kq w W2) := by rw [hW2]; exact K1.setNew _ (by rw [hX5]; exact Nat.le_refl _)
  have B2 : Hid (Below w0.heap.size w0 W2) := by rw [hW2]; exact B1.setCell (by rw [hX5]; exact hw0) _
  have hwX : Hid (w.heap.size ≤ X5) := by rw [hX5]; exact Nat.le_refl _
  have hw0X : Hid (w0.heap.size ≤ X5) := by rw [hX5]; exact hw0
  have kI : (k : Int) < 9 := by omega
  have k0 : (0 : Int) ≤ (k : Int) := by omega
  have HX5 := hid hX5
  have HW1 := hid hW1
  have HW2 := hid hW2
  clear hX5 hW1 hW2 hRG hall hp hT h hb b1 F1 G1 K1 B1
  go_enter Try.func36, Try.ntmps36
  go_upto_region 2 with fail
  rw [← HW1.out, ← HX5.out]
  go_upto_region 3 with fail
  rw [← HW2.out]
  clear HW1 HX5 HW2 p6 x0 fx
  go_wp2_with fail
  go_loopw [6, 8, 16] (fun y6 y8 y16 wr => ∃ (i v : Nat) (A : Nat → Bool) (st : Gst), i ≤ pe.length ∧ y16 = .int .i64 (i : Int) ∧ y6 = .int .i64 (v : Int) ∧ FRow wr X5 76 9 (askF A) ∧ gGath k (pe.drop i) A st v = RG ∧ A k = true ∧ v ≤ i + 1 ∧ (∀ j, j < N → (st j).lg.length ≤ 500) ∧ GpL wr w0.heap.size gb N st pb la lc mb ∧ Kq w wr ∧ Below w0.heap.size w0 wr) (fun _ _ y16 _ => pe.length - (intOf y16).toNat)
  case atStart => exact ⟨0, 1, fun j => decide (j = k), s, Nat.zero_le _, rfl, rfl, F2.out, HRG.out.symm, by simp, Nat.le_refl _, HT.out, G2.out, K2.out, B2.out⟩
  case round =>
    obtain ⟨i, v, A, st, hi, rfl, rfl, hF, hg, hAk, hv, hlg, hG, hK, hB⟩ := hrel
    have HF := hid hF
    have HG := hid hg
    have HAK := hid hAk
    have HLG := hid hlg
    have GX := hid hG
    have KX := hid hK
    have BX := hid hB
    clear hF hg hAk hlg hG hK hB F2 G2 K2 B2
    by_cases hlt : i < pe.length
    · have hlt' : (i : Int) < (pe.length : Int) := by omega
      have i0 : (0 : Int) ≤ (i : Int) := by omega
      rcases HP.out.2.2 with h00 | ⟨g, off, hpa, hgl, hc⟩
      · omega
      subst hpa
      have c0 : wr.cell? ⟨g, off + i, none⟩ = some (.int .i64 (pe.getD i 0)) := (BX.out.cell (p := ⟨g, off + i, none⟩) hgl).trans (hc i hlt)
      clear hc
      obtain ⟨q1, q2⟩ := gIn_at HALL.out hlt
      obtain ⟨q, hq⟩ := Int.eq_ofNat_of_zero_le q1
      have hqn : (pe.getD i 0).toNat = q := by rw [hq]; rfl
      rw [hq] at c0 q2
      have qN : q < N := by omega
      have q9 : (q : Int) < 9 := by omega
      have q0 : (0 : Int) ≤ (q : Int) := by omega
      have GD := hid (drop_at hlt)
      have HQN := hid hqn
      clear q1 hq hqn
      have a0 := HF.out.cell (p := q) (by omega)
      have fa := HF.out.free q
      unfold askF at a0
      cases hAq : A q with
      | true =>
        rw [hAq] at a0
        have GN : Hid (gGath k (pe.drop (i + 1)) A st v = RG) := hid (by rw [← HG.out, GD.out, gGath_in _ _ _ _ _ _ (by rw [HQN.out]; exact hAq)])
        clear hAq GD
        go_wp2
        go_roundw
        case rel => exact ⟨i + 1, v, A, st, hlt, by go_num, rfl, HF.out, GN.out, HAK.out, by omega, HLG.out, GX.out, KX.out, BX.out⟩
        case measure => simp [intOf]; omega
      | false =>
        rw [hAq] at a0
        have qk : q ≠ k := fun e => by rw [e, HAK.out] at hAq; cases hAq
        obtain ⟨WL, hWL⟩ : ∃ n, n = gWill (st k) k (gLate (st k) (st q)) := ⟨_, rfl⟩
        have GN : Hid (gGath k (pe.drop (i + 1)) (gAsked A q) (putM st q (gVote (st k) k (st q))) (v + WL.toNat) = RG) := hid (by rw [hWL, ← HG.out, GD.out, gGath_out _ _ _ _ _ _ (by rw [HQN.out]; exact hAq), HQN.out])
        have HAK2 : Hid (gAsked A q k = true) := by unfold gAsked; rw [HAK.out, Bool.or_true]; exact rfl
        obtain ⟨W3, hW3⟩ : ∃ W, W = wr.setCell ⟨X5, q, none⟩ (.bool true) := ⟨_, rfl⟩
        have F3 : Hid (FRow W3 X5 76 9 (askF (gAsked A q))) := by rw [hW3]; exact (HF.out.set q _).congr fun p _ => askF_put A q p
        have G3 : Hid (GpL W3 w0.heap.size gb N st pb la lc mb) := by
          obtain ⟨cs, hr, _⟩ := HF.out
          rw [hW3]
          exact GX.out.asideC hr (by decide) (by decide) (by decide) (by decide) _ _
        have K3 : Hid (Kq w W3) := by rw [hW3]; exact KX.out.setNew _ hwX.out
        have B3 : Hid (Below w0.heap.size w0 W3) := by rw [hW3]; exact BX.out.setCell hw0X.out _
        have HW3 := hid hW3
        clear hAq GD HG HAK hW3
        go_upto_region 9 with fail
        rw [← HW3.out]
        clear HW3 a0 fa c0 HF GX KX BX
        have m7 : W3.cell? ⟨pb k, 7, none⟩ = some (.slice (some ⟨gb, 0, none⟩) N N) := (G3.out.mem k hk).cell 7
        have mq : W3.cell? ⟨gb, q, none⟩ = some (.pointer (some ⟨pb q, 0, none⟩)) := (G3.out.all.cell q).trans (ptrs_at pb qN)
        have KV := hid (iVotes w0.heap.size gb N q k qN hk qk st pb la lc mb ⟨HLG.out q qN, HLG.out k hk⟩ W3 G3.out B3.out.size)
        rw [← hWL] at KV
        clear hWL
        have qNI : (q : Int) < (N : Int) := by omega
        go_wp2_with fail
        refine KV.out.mono ?_
        rintro e w4 ⟨rfl, h4, hk4, hb4⟩
        have HLG4 : Hid (∀ j, j < N → (putM st q (gVote (st k) k (st q)) j).lg.length ≤ 500) := fun j hj => by
          by_cases e : j = q
          · rw [e, putM_self]
            have : (gVote (st k) k (st q)).lg = (st q).lg := by unfold gVote gLate; split <;> split <;> rfl
            rw [this]; exact HLG.out q qN
          · rw [putM_ne _ _ _ e]; exact HLG.out j hj
        have F4 : Hid (FRow w4 X5 76 9 (askF (gAsked A q))) := by
          obtain ⟨cs, h1, h2, h3⟩ := F3.out
          exact ⟨cs, hk4.row _ _ _ (by decide) (by decide) (by decide) h1, h2, h3⟩
        have G4 := hid h4
        have K4 := hid (K3.out.trans hk4)
        have B4 := hid (B3.out.trans hb4)
        clear h4 hk4 hb4 m7 mq KV F3 G3 K3 B3
        cases WL with
        | true =>
          go_wp2
          go_roundw
          case rel => exact ⟨i + 1, v + 1, gAsked A q, _, hlt, by go_num, by go_num, F4.out, GN.out, HAK2.out, by omega, HLG4.out, G4.out, K4.out, B4.out⟩
          case measure => simp [intOf]; omega
        | false =>
          go_wp2
          go_roundw
          case rel => exact ⟨i + 1, v, gAsked A q, _, hlt, by go_num, rfl, F4.out, GN.out, HAK2.out, by omega, HLG4.out, G4.out, K4.out, B4.out⟩
          case measure => simp [intOf]; omega
    · have hlt' : ¬ (i : Int) < (pe.length : Int) := by omega
      have ei : i = pe.length := by omega
      have GE1 : Hid (RG = (st, v)) := hid (by rw [← HG.out, ei, List.drop_length]; rfl)
      go_wp2
      go_ret
      exact ⟨by rw [GE1.out]; rfl, by rw [GE1.out]; exact GX.out, KX.out, BX.out⟩
end Go.Proofs.Ytmhkelfmciepaaa
