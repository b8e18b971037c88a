import Derived.Test.YtlobnmcjnaibaaaDoorRIGrid4
namespace Go.Proofs.YtlobnmcjnaibaaaDoorR
open Go.RowKit
/-- The world but for a block of bytes as it was, and a struct at b. -/
structure PutSt (w wr : World) (b R C q g : Nat) (zs : List Nat) : Prop where
  B : RowAt wr b 46 #[.int .i64 R, .int .i64 C, .slice (some ⟨g, 0, none⟩) q q]
  Z : Gr wr g zs
  len : zs.length = q
  gr : w.grownBy wr (some g)
  ne : b ≠ g
theorem PutSt.alloc {w wr : World} {b R C q g : Nat} {zs : List Nat} (h : PutSt w wr b R C q g zs) (o : Obj) : PutSt w (wr.alloc o) b R C q g zs := ⟨h.B.alloc o, h.Z.alloc o, h.len, grown_trans h.gr (World.grownBy_alloc wr o _), h.ne⟩
theorem PutSt.drew {w wr : World} {b R C q g : Nat} {zs : List Nat} (h : PutSt w wr b R C q g zs) : PutSt w wr.drew b R C q g zs := ⟨h.B, h.Z, h.len, grown_trans h.gr (grown_drewN wr 1 _), h.ne⟩
theorem PutSt.set {w wr : World} {b R C q g : Nat} {zs : List Nat} (h : PutSt w wr b R C q g zs) (i x : Nat) : PutSt w (wr.setCell ⟨g, i, none⟩ (.int .u8 x)) b R C q g (zs.set i x) := ⟨h.B.other _ _ h.ne, h.Z.set i x, by rw [List.length_set]; exact h.len, grown_trans h.gr grown_set, h.ne⟩
theorem PutSt.below {w wr w2 : World} {b R C q g : Nat} {zs : List Nat} (h : PutSt w wr b R C q g zs) (hb : Below wr.heap.size wr w2) : PutSt w w2 b R C q g zs := ⟨h.B.below hb h.B.lt, h.Z.below hb h.Z.lt, h.len, grown_trans h.gr (below_grown hb _), h.ne⟩
theorem PutSt.grown {w wr w2 : World} {b R C q g : Nat} {zs zs' : List Nat} (h : PutSt w wr b R C q g zs) (hg : wr.grownBy w2 (some g)) (hz : Gr w2 g zs') (hl : zs'.length = q) : PutSt w w2 b R C q g zs' :=
  ⟨rowFar h.B hg (by intro e; injection e with e; exact h.ne e), hz, hl, grown_trans h.gr hg, h.ne⟩
theorem irowF (R C g q i : Nat) (hq : q ≤ 8192) (HQ : Hid (q = R * C)) (hR : R ≤ 64) (hC : 1 ≤ C) (hi : i < R) (w : World) :
    Calls Tryd.prog 46 #[grv R C g q, .int .i64 i] w fun e w' => e = .returned (.slice (some ⟨g, i * C, none⟩) C (q - i * C)) ∧ w' = w.alloc (.cells #[.int .i64 R, .int .i64 C, .slice (some ⟨g, 0, none⟩) q q] 46) := by
  have h1 : (i : Int) * (C : Int) = ((i * C : Nat) : Int) := by simp
  have h2 : ((i : Int) + 1) * (C : Int) = ((i * C : Nat) : Int) + (C : Int) := by rw [← h1, Int.add_mul, Int.one_mul]
  have ho : i * C + C ≤ q := by have := mul_pos_lt hi (show C - 1 < C by omega); rw [← HQ.out] at this; omega
  exact irow R C g q i (i * C) (by omega) w h1 h2 ho (by omega) (by omega)
set_option maxRecDepth 20000 in
set_option maxHeartbeats 4000000 in
theorem iswap (R C a b q g : Nat) (xs : List Nat) (w : World) (hR : R ≤ 64) (hC1 : 1 ≤ C) (hC : C ≤ 128) (ha : a < R) (hb : b < R) (hq : q = R * C) (hz : Gr w g xs) (hl : xs.length = q) :
    Calls Tryd.prog 47 #[grv R C g q, .int .i64 a, .int .i64 b] w fun e w' => e = .returned (.tuple #[]) ∧ (∃ zs, Gr w' g zs ∧ zs.length = q ∧ ∀ i j, i < R → j < C → mo C zs i j = swpN (mo C xs) a b i j) ∧ w.grownBy w' (some g) := by
  have hqb : q ≤ 64 * 128 := by rw [hq]; exact Nat.mul_le_mul hR hC
  have hq8 : q ≤ 8192 := by omega
  have hg := hz.lt
  obtain ⟨qa, hqa⟩ : ∃ qa, qa = a * C := ⟨_, rfl⟩
  obtain ⟨qb, hqb'⟩ : ∃ qb, qb = b * C := ⟨_, rfl⟩
  have A1 : Hid ((a : Int) * (C : Int) = (qa : Int)) := by show _ = _; rw [hqa]; simp
  have A2 : Hid (((a : Int) + 1) * (C : Int) = (qa : Int) + (C : Int)) := by show _ = _; rw [← A1.out, Int.add_mul, Int.one_mul]
  have B1 : Hid ((b : Int) * (C : Int) = (qb : Int)) := by show _ = _; rw [hqb']; simp
  have B2 : Hid (((b : Int) + 1) * (C : Int) = (qb : Int) + (C : Int)) := by show _ = _; rw [← B1.out, Int.add_mul, Int.one_mul]
  have oa : qa + C ≤ q := by have := mul_pos_lt ha (show C - 1 < C by omega); rw [← hqa, ← hq] at this; omega
  have ob : qb + C ≤ q := by have := mul_pos_lt hb (show C - 1 < C by omega); rw [← hqb', ← hq] at this; omega
  have HQA := hid hqa
  have HQB := hid hqb'
  have HQ := hid hq
  have S0 : Hid (PutSt w (w.alloc (.cells #[.int .i64 R, .int .i64 C, .slice (some ⟨g, 0, none⟩) q q] 46)) w.heap.size R C q g xs) := ⟨RowAt.new w _ _, hz.alloc _, hl, World.grownBy_alloc w _ _, by omega⟩
  have S1 := hid ((S0.out.alloc (.cells #[.int .i64 R, .int .i64 C, .slice (some ⟨g, 0, none⟩) q q] 46)).alloc (.cells #[.int .i64 R, .int .i64 C, .slice (some ⟨g, 0, none⟩) q q] 46)).drew
  clear hqa hqb' hq hz hl hqb S0
  go_enter Tryd.func47, Tryd.ntmps47
  go_wp2_with fail
  go_region_held3 (fun wx => wx.cell? ⟨w.heap.size, 0, none⟩ = some (.int .i64 R) ∧ wx.cell? ⟨w.heap.size, 1, none⟩ = some (.int .i64 C) ∧ wx.cell? ⟨w.heap.size, 2, none⟩ = some (.slice (some ⟨g, 0, none⟩) q q)) ((go_keep; done)) ((go_at_call 46; refine (irowF R C g q _ hq8 HQ hR hC1 (by assumption) _).mono ?_; rintro e wA ⟨rfl, rfl⟩))
  go_wp2
  rw [← HQA.out, ← HQB.out]
  go_loopw [17] (fun y wr => ∃ (J : Nat) (zs : List Nat), J ≤ C ∧ y = .int .i64 J ∧ PutSt w wr w.heap.size R C q g zs ∧ (∀ i j, i < R → j < C → mo C zs i j = if j < J then swpN (mo C xs) a b i j else mo C xs i j)) (fun y _ => C - (intOf y).toNat)
  case atStart => exact ⟨0, xs, Nat.zero_le _, rfl, S1.out, fun i j _ _ => by rw [if_neg (by omega)]⟩
  case round =>
    obtain ⟨J, zs, hJ, rfl, hS, zf⟩ := hrel
    have ZF := hid zf
    have HS := hid hS
    clear zf hS S1
    by_cases hlt : J < C
    · have hlt' : (J : Int) < (C : Int) := by omega
      have j0 : (0 : Int) ≤ (J : Int) := by omega
      obtain ⟨X, hX⟩ : ∃ X, zs.getD (qa + J) 0 = X := ⟨_, rfl⟩
      obtain ⟨Y, hY⟩ : ∃ Y, zs.getD (qb + J) 0 = Y := ⟨_, rfl⟩
      have HX := hid hX
      have HY := hid hY
      have z1 := HS.out.Z.cell (i := qa + J) (by rw [HS.out.len]; omega)
      have z2 := HS.out.Z.cell (i := qb + J) (by rw [HS.out.len]; omega)
      rw [hX] at z1
      rw [hY] at z2
      have f1 := HS.out.Z.free (qa + J)
      have f2 := HS.out.Z.free (qb + J)
      have N := hid ((HS.out.set (qa + J) Y).set (qb + J) X).drew
      have FD : Hid (∀ i j, i < R → j < C → mo C ((zs.set (qa + J) Y).set (qb + J) X) i j = if j < J + 1 then swpN (mo C xs) a b i j else mo C xs i j) := fun i j hi hj => by
        have e1 : Y = mo C zs b J := by rw [← HY.out, HQB.out]; rfl
        have e2 : X = mo C zs a J := by rw [← HX.out, HQA.out]; rfl
        rw [e1, e2, HQA.out, HQB.out]
        exact swap_step (by rw [HS.out.len]; exact HQ.out) ha hb hlt ZF.out i j hi hj
      have zf2 := (HS.out.Z.set (qa + J) Y).free (qb + J)
      have zc : (wr.setCell ⟨g, qa + J, none⟩ (.int .u8 Y)).cell? ⟨g, qb + J, none⟩ = some (.int .u8 (((zs.set (qa + J) Y).getD (qb + J) 0 : Nat) : Int)) := (HS.out.Z.set (qa + J) Y).cell (by rw [List.length_set, HS.out.len]; omega)
      clear hX hY
      go_wp2_with fail
      go_region
      go_wp2
      go_roundw
      case rel => exact ⟨J + 1, (zs.set (qa + J) Y).set (qb + J) X, by omega, by go_num, N.out, FD.out⟩
      case measure => simp [intOf]; omega
    · have hJe : J = C := by omega
      subst hJe
      go_wp2
      go_end0
      exact ⟨rfl, ⟨zs, HS.out.Z, HS.out.len, fun i j hi hj => by rw [ZF.out i j hi hj, if_pos hj]⟩, HS.out.gr⟩
end Go.Proofs.YtlobnmcjnaibaaaDoorR
