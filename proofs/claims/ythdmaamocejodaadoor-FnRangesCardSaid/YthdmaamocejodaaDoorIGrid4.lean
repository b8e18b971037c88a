import Derived.Test.YthdmaamocejodaaDoorIGrid3
namespace Go.Proofs.YthdmaamocejodaaDoor
open Go.RowKit
/-- A new grid under way: its struct at m, its bytes at g, all else as it was in W. -/
structure NgSt (W wr : World) (m g R C q : Nat) (zs : List Nat) : Prop where
  M0 : RowAt wr m 121 #[.int .i64 R, .int .i64 C, .slice (some ⟨g, 0, none⟩) q q]
  Z : Gr wr g zs
  len : zs.length = q
  bel : Below W.heap.size W wr
  o2 : W.heap.size ≤ g
  o3 : g < m
theorem NgSt.alloc {W wr : World} {m g R C q : Nat} {zs : List Nat} (h : NgSt W wr m g R C q zs) (o : Obj) : NgSt W (wr.alloc o) m g R C q zs := ⟨h.M0.alloc o, h.Z.alloc o, h.len, h.bel.alloc h.bel.size o, h.o2, h.o3⟩
theorem NgSt.drew {W wr : World} {m g R C q : Nat} {zs : List Nat} (h : NgSt W wr m g R C q zs) : NgSt W wr.drew m g R C q zs := ⟨h.M0, h.Z, h.len, h.bel.drew, h.o2, h.o3⟩
theorem NgSt.ml {W wr : World} {m g R C q : Nat} {zs : List Nat} (h : NgSt W wr m g R C q zs) : m < wr.heap.size := h.M0.lt
theorem NgSt.below {W wr w2 : World} {m g R C q : Nat} {zs : List Nat} (h : NgSt W wr m g R C q zs) (hb : Below wr.heap.size wr w2) : NgSt W w2 m g R C q zs :=
  ⟨h.M0.below hb h.ml, h.Z.below hb h.Z.lt, h.len, h.bel.trans (hb.mono h.bel.size), h.o2, h.o3⟩
theorem NgSt.set {W wr : World} {m g R C q : Nat} {zs : List Nat} (h : NgSt W wr m g R C q zs) (i x : Nat) : NgSt W (wr.setCell ⟨g, i, none⟩ (.int .u8 x)) m g R C q (zs.set i x) := by
  have h3 := h.o3
  exact ⟨h.M0.other _ _ (by dsimp only; omega), h.Z.set i x, by rw [List.length_set]; exact h.len, h.bel.setCell (by show W.heap.size ≤ g; exact h.o2) _, h.o2, h.o3⟩
theorem NgSt.grown {W wr w2 : World} {m g R C q : Nat} {zs zs' : List Nat} (h : NgSt W wr m g R C q zs) (hg : wr.grownBy w2 (some g)) (hz : Gr w2 g zs') (hl : zs'.length = q) : NgSt W w2 m g R C q zs' := by
  have h3 := h.o3
  have h2 := h.o2
  exact ⟨rowFar h.M0 hg (by intro e; injection e with e; omega), hz, hl, h.bel.grown hg h.bel.size (fun k hk => by cases hk; exact h.o2), h.o2, h.o3⟩
theorem NgSt.start {W w1 : World} {g R C q : Nat} {zs : List Nat} (hz : Gr w1 g zs) (hl : zs.length = q) (hb : Below W.heap.size W w1) (hg : W.heap.size ≤ g) : NgSt W (w1.alloc (.cells #[.int .i64 R, .int .i64 C, .slice (some ⟨g, 0, none⟩) q q] 121)) w1.heap.size g R C q zs :=
  ⟨RowAt.new w1 _ _, hz.alloc _, hl, hb.alloc hb.size _, hg, hz.lt⟩
theorem xor_u8 (C I J : Nat) (hC : C ≤ 64) (hI : I < 64) (hJ : J < 64) : bits .xor .u8 ((C : Int) + (I : Int)) (J : Int) = (((C + I) ^^^ J : Nat) : Int) := by
  rw [show (C : Int) + (I : Int) = ((C + I : Nat) : Int) by omega]
  exact u8_xor_nat _ _ (by omega) (by omega)
theorem iinvx (x : Int) (A G : Nat) (hx : x = (A : Int)) (ha : A < 256) (HG : Hid (gp 8 29 A 254 = G)) (w : World) : Calls Tryd.prog 56 #[.agg #[.int .u8 29], .int .u8 x] w fun e w' => e = .returned (.int .u8 (G : Nat)) ∧ Below w.heap.size w w' := by
  subst hx; exact inverse8 A G ha HG w
set_option maxRecDepth 20000 in
set_option maxHeartbeats 4000000 in
theorem icauGrid0 (R C q : Nat) (hR : R ≤ 64) (hC1 : 1 ≤ C) (hC : C ≤ 64) (hq : q = R * C) (w : World) :
    Calls Tryd.prog 49 #[.int .i64 R, .int .i64 C] w fun e w' => ∃ g, e = .returned (grv R C g q) ∧ w.heap.size ≤ g ∧ Gr w' g (cauL R C) ∧ Below w.heap.size w w' := by
  have hqb : q ≤ 64 * 64 := by rw [hq]; exact Nat.mul_le_mul hR hC
  have hq4 : q ≤ 4096 := by omega
  have hqi : Hid ((R : Int) * (C : Int) = (q : Int)) := by show _ = _; rw [hq]; simp
  have HQ := hid hq
  clear hq hqb
  have hcl : Hid ((cauL R C).length = q) := by show _ = _; rw [cauL_len, ← HQ.out]
  go_enter Tryd.func49, Tryd.ntmps49
  go_wp2_with fail
  refine (inewB R C q _ hqi (by omega)).mono ?_
  rintro e w1 ⟨g, rfl, hg, hG, hb⟩
  have S0 := hid (NgSt.start (R := R) (C := C) (q := q) hG List.length_replicate hb hg)
  have R0' : Hid (RowAt (w.alloc (.cells #[.int .i64 0, .int .i64 0, .slice none 0 0] 121)) w.heap.size 121 #[.int .i64 0, .int .i64 0, .slice none 0 0]) := RowAt.new w _ _
  have B0 : Hid (Below w.heap.size w (w.alloc (.cells #[.int .i64 0, .int .i64 0, .slice none 0 0] 121))) := (Below.refl _ _).alloc (Nat.le_refl _) _
  obtain ⟨W, hW⟩ : ∃ W, W = w.alloc (.cells #[.int .i64 0, .int .i64 0, .slice none 0 0] 121) := ⟨_, rfl⟩
  have hWs : W.heap.size = w.heap.size + 1 := by rw [hW, size_al]
  obtain ⟨m, hm⟩ : ∃ m, m = w1.heap.size := ⟨_, rfl⟩
  rw [← hW] at S0 R0' B0 hg
  clear hb hG hW
  go_wp2
  rw [← hm] at S0 ⊢
  clear hm
  go_loopw [12] (fun x wr => ∃ (I : Nat) (zs : List Nat), I ≤ R ∧ x = .int .i64 I ∧ zs.take (I * C) = (cauL R C).take (I * C) ∧ NgSt W wr m g R C q zs) (fun x _ => R - (intOf x).toNat)
  case atStart => exact ⟨0, _, Nat.zero_le _, rfl, by simp, S0.out⟩
  case round =>
    obtain ⟨I, zs, hI, rfl, hzt, hS⟩ := hrel
    have HT := hid hzt
    have HS := hid hS
    clear hzt hS S0
    by_cases hlt : I < R
    · have hlt' : (I : Int) < (R : Int) := by omega
      obtain ⟨o, ho⟩ : ∃ o, o = I * C := ⟨_, rfl⟩
      have HO := hid ho
      have oC : Hid (∀ j, j < C → o + j < q) := fun j hj => by rw [ho, HQ.out]; exact mul_pos_lt hlt hj
      have h1 : Hid ((I : Int) * (C : Int) = (o : Int)) := by show _ = _; rw [ho]; simp
      have h2 : Hid (((I : Int) + 1) * (C : Int) = (o : Int) + (C : Int)) := by show _ = _; rw [← h1.out, Int.add_mul, Int.one_mul]
      have hoq : o + C ≤ q := by have := oC.out (C - 1) (by omega); omega
      have S0 := HS
      clear HS
      go_wp2
      rw [← ho] at HT
      clear ho
      go_loopw [16] (fun x wr => ∃ (J : Nat) (zs : List Nat), J ≤ C ∧ x = .int .i64 J ∧ zs.take (o + J) = (cauL R C).take (o + J) ∧ NgSt W wr m g R C q zs) (fun x _ => C - (intOf x).toNat)
      case atStart => exact ⟨0, zs, Nat.zero_le _, rfl, HT.out, S0.out⟩
      case round =>
        clear HT S0 zs
        obtain ⟨J, zs, hJ, rfl, hzt, hS⟩ := hrel
        have HT := hid hzt
        have HS := hid hS
        clear hzt hS
        by_cases hlj : J < C
        · have hlj' : (J : Int) < (C : Int) := by omega
          have j0 : (0 : Int) ≤ (J : Int) := by omega
          have x1 := xor_u8 C I J hC (by omega) (by omega)
          have y1 : IntKind.u8.wrap ((C : Int) + (I : Int)) = (C : Int) + (I : Int) := by rw [IntKind.wrap_u8']; omega
          have y2 : IntKind.u8.wrap (J : Int) = (J : Int) := u8_of (by omega)
          obtain ⟨A, hA⟩ : ∃ A, A = (C + I) ^^^ J := ⟨_, rfl⟩
          have hA2 : A < 256 := by rw [hA]; exact Nat.xor_lt_two_pow (n := 8) (by omega) (by omega)
          rw [← hA] at x1
          obtain ⟨G, hG⟩ : ∃ G, gp 8 29 A 254 = G := ⟨_, rfl⟩
          have HG := hid hG
          have HV : Hid ((cauL R C).getD (o + J) 0 = G) := by show _ = _; rw [HO.out, cauL_at hlt hlj, ← hA, hG]
          clear hA hG
          have bq := oC.out J hlj
          have HT' := hid (take_set_nl (xs := cauL R C) (ys := zs) (k := o + J) (by rw [hcl.out]; exact bq) (by rw [HS.out.len]; exact bq) HT.out HV.out)
          have r0 := HS.out.M0
          go_wp2_with (refine wpList_load_row rfl 121 (.tmp 5) rfl m rfl _ _ _ _ r0 Tryd.underlying121 rfl (by kernel_rfl) ?_)
          refine (irow R C g q I o (by omega) _ h1 h2 hoq (by omega) (by omega)).mono ?_
          rintro e w2 ⟨rfl, rfl⟩
          go_wp2_with fail
          refine (field8 _).mono ?_
          rintro e w2 ⟨rfl, rfl⟩
          go_wp2_with fail
          refine (inverse8 A G hA2 HG _).mono ?_
          rintro e w2 ⟨rfl, hb2⟩
          have S2 := hid (((HS.out.alloc _).alloc _).below hb2)
          have f2 := S2.out.Z.free (o + J)
          have c2 := S2.out.Z.cell (i := o + J) (by rw [S2.out.len]; exact bq)
          have S3 := hid (S2.out.set (o + J) G)
          clear hb2 HS r0
          go_wp2
          go_roundw
          case rel => exact ⟨J + 1, zs.set (o + J) G, by omega, by go_num, HT'.out, S3.out⟩
          case measure => simp [intOf]; omega
        · have hje : J = C := by omega
          subst hje
          go_wp2
          go_roundw
          case rel => exact ⟨I + 1, zs, by omega, by go_num, by rw [Nat.succ_mul, ← HO.out]; exact HT.out, HS.out⟩
          case measure => simp [intOf]; omega
    · have hie : I = R := by omega
      subst hie
      have HE : Hid (zs = cauL I C) := by
        have := HT.out
        rw [← HQ.out, List.take_of_length_le (by rw [HS.out.len]; exact Nat.le_refl _), List.take_of_length_le (by rw [hcl.out]; exact Nat.le_refl _)] at this; exact this
      have R1 := hid (R0'.out.below HS.out.bel (by omega))
      have r0 := HS.out.M0
      have hml := HS.out.o2
      have hmg := HS.out.o3
      go_wp2_with (first
        | refine wpList_load_row rfl 121 (.tmp 5) rfl m rfl _ _ _ _ r0 Tryd.underlying121 rfl (by kernel_rfl) ?_
        | refine wpList_store_row rfl 121 (.tmp 4) (.tmp 35) rfl w.heap.size #[.int .i64 I, .int .i64 C, .slice (some ⟨g, 0, none⟩) q q] rfl rfl _ _ R1.out (by kernel_rfl) rfl (one3 _ _ _ _ _) ?_)
      refine bodyPost_ret (v := grv I C g q) ?_ rfl ⟨g, rfl, by omega, ?_, ?_⟩
      · exact results_cell_row Tryd.results49 _ _ w.heap.size _ _ _ _ rfl (R1.out.setRow _) Tryd.underlying121 rfl (by kernel_rfl)
      · rw [← HE.out]; exact HS.out.Z.otherRow _ _ (by omega)
      · exact below_setRow (B0.out.trans (HS.out.bel.mono (by omega))) _ _ (Nat.le_refl _)
theorem icauGrid (R C q : Nat) (_hR1 : 1 ≤ R) (hR : R ≤ 64) (hC1 : 1 ≤ C) (hC : C ≤ 64) (hq : q = R * C) (w : World) :
    Calls Tryd.prog 49 #[.int .i64 R, .int .i64 C] w fun e w' => ∃ g, e = .returned (grv R C g q) ∧ w.heap.size ≤ g ∧ Gr w' g (cauL R C) ∧ Below w.heap.size w w' := icauGrid0 R C q hR hC1 hC hq w
end Go.Proofs.YthdmaamocejodaaDoor
