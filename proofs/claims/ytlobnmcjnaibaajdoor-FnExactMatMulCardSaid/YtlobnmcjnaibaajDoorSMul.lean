import Derived.Test.YtlobnmcjnaibaajDoorSMx
namespace Go.Proofs.YtlobnmcjnaibaajDoor
open Go.RowKit
/-- row i times column j, the first n terms -/
def dotN (xs ys : List Nat) (C D i j : Nat) : Nat → Nat
  | 0 => 0
  | n + 1 => dotN xs ys C D i j n ^^^ gm 8 29 (xs.getD (i * C + n) 0) (ys.getD (n * D + j) 0)
theorem dotN_lt {xs ys : List Nat} (hx : Small xs) (C D i j : Nat) : ∀ n, dotN xs ys C D i j n < 256
  | 0 => by show 0 < 256; decide
  | n + 1 => Nat.xor_lt_two_pow (n := 8) (dotN_lt hx C D i j n) (gm_lt fld8.toFld _ (hx _))
def mulL (xs ys : List Nat) (R C D : Nat) : List Nat := (List.range (R * D)).map fun p => dotN xs ys C D (p / D) (p % D) C
theorem mulL_len (xs ys : List Nat) (R C D : Nat) : (mulL xs ys R C D).length = R * D := by simp [mulL]
theorem mulL_at {xs ys : List Nat} {R C D i j : Nat} (hi : i < R) (hj : j < D) : (mulL xs ys R C D).getD (i * D + j) 0 = dotN xs ys C D i j C := by
  have hp : i * D + j < R * D := by
    have : i * D + D ≤ R * D := by rw [← Nat.succ_mul]; exact Nat.mul_le_mul_right D hi
    omega
  have e1 : (i * D + j) / D = i := by rw [Nat.mul_comm, Nat.mul_add_div (by omega), Nat.div_eq_of_lt hj, Nat.add_zero]
  have e2 : (i * D + j) % D = j := by rw [Nat.mul_comm, Nat.mul_add_mod, Nat.mod_eq_of_lt hj]
  rw [List.getD_eq_getElem?_getD]
  simp [mulL, hp, e1, e2]
theorem small_of {xs : List Nat} (h : ∀ y ∈ xs, y < 256) : Small xs := fun i => by
  rw [List.getD_eq_getElem?_getD]
  cases e : xs[i]? with
  | none => simp
  | some y => exact h y (List.mem_of_getElem? e)
theorem mul_pos_lt {i R D : Nat} (hi : i < R) {j : Nat} (hj : j < D) : i * D + j < R * D := by
  have : i * D + D ≤ R * D := by rw [← Nat.succ_mul]; exact Nat.mul_le_mul_right D hi
  omega
theorem take_set_nl {xs ys : List Nat} {k x : Nat} (hx : k < xs.length) (hy : k < ys.length) (h : ys.take k = xs.take k) (e : xs.getD k 0 = x) : (ys.set k x).take (k + 1) = xs.take (k + 1) := by
  subst e
  apply List.ext_getElem?
  intro i
  rw [List.getElem?_take, List.getElem?_take]
  split
  · by_cases e : i = k
    · subst e; rw [List.getElem?_set_self hy, List.getD_eq_getElem?_getD, List.getElem?_eq_getElem hx]; rfl
    · rw [List.getElem?_set_ne (by omega)]
      have := congrArg (·[i]?) h
      simp only [List.getElem?_take] at this
      rw [if_pos (by omega), if_pos (by omega)] at this; exact this
  · rfl
theorem one4 (k r c : Int) (a : Option Addr) (len cap : Nat) : (#[.int .i64 k, .int .i64 r, .int .i64 c, .slice a len cap] : Array Value).all (·.oneCell') = true := by simp [Value.oneCell']
/-- what the loops of spec.MatMul keep -/
structure MulSt (w wr : World) (R C D : Nat) (a : Option Addr) (la ca : Nat) (a' : Option Addr) (lb cb q : Nat) (zs : List Nat) : Prop where
  A0 : RowAt wr w.heap.size 26 #[.int .i64 R, .int .i64 C, .slice a la ca]
  B0 : RowAt wr (w.heap.size + 1) 26 #[.int .i64 C, .int .i64 D, .slice a' lb cb]
  R0 : RowAt wr (w.heap.size + 1 + 1) 28 #[.int .i64 0, .int .i64 0, .int .i64 0, .slice none 0 0]
  M0 : RowAt wr (w.heap.size + 1 + 1 + 1 + 1 + 1 + 1 + 1) 26 #[.int .i64 R, .int .i64 D, .slice (some ⟨w.heap.size + 1 + 1 + 1 + 1 + 1 + 1, 0, none⟩) q q]
  Z : Wr .i64 wr (w.heap.size + 1 + 1 + 1 + 1 + 1 + 1) 0 (nl zs)
  len : zs.length = q
  bel : Below w.heap.size w wr
theorem MulSt.below {w wr w2 : World} {R C D : Nat} {a : Option Addr} {la ca : Nat} {a' : Option Addr} {lb cb q : Nat} {zs : List Nat} (h : MulSt w wr R C D a la ca a' lb cb q zs) (hb : Below wr.heap.size wr w2) : MulSt w w2 R C D a la ca a' lb cb q zs :=
  ⟨h.A0.below hb h.A0.lt, h.B0.below hb h.B0.lt, h.R0.below hb h.R0.lt, h.M0.below hb h.M0.lt, h.Z.below hb h.Z.lt, h.len, h.bel.trans (hb.mono h.bel.size)⟩
theorem MulSt.set {w wr : World} {R C D : Nat} {a : Option Addr} {la ca : Nat} {a' : Option Addr} {lb cb q : Nat} {zs : List Nat} (h : MulSt w wr R C D a la ca a' lb cb q zs) (i x : Nat) (hi : i < q) :
    MulSt w (wr.setCell ⟨w.heap.size + 1 + 1 + 1 + 1 + 1 + 1, i, none⟩ (.int .i64 x)) R C D a la ca a' lb cb q (zs.set i x) := by
  refine ⟨h.A0.other _ _ (by dsimp only; omega), h.B0.other _ _ (by dsimp only; omega), h.R0.other _ _ (by dsimp only; omega), h.M0.other _ _ (by dsimp only; omega), ?_, by rw [List.length_set]; exact h.len, h.bel.setCell (by simp; omega) _⟩
  have := h.Z.set i (x : Int) (by rw [nl_len, h.len]; exact hi)
  rw [Nat.zero_add, nl_set] at this; exact this
theorem below_drew_alloc (w : World) (o : Obj) : Below w.heap.size w (w.drew.alloc o) := (Below.refl _ _).drew.alloc (Nat.le_refl _) o
set_option maxRecDepth 20000 in
set_option maxHeartbeats 4000000 in
theorem smatmul_ok (R C D : Nat) (hR1 : 1 ≤ R) (hR : R ≤ 64) (hC1 : 1 ≤ C) (hC : C ≤ 64) (hD1 : 1 ≤ D) (hD : D ≤ 64) (xs ys : List Nat) (hx : Small xs) (hy : Small ys) (hxl : xs.length = R * C) (hyl : ys.length = C * D)
    (a : Option Addr) (la ca : Nat) (a' : Option Addr) (lb cb : Nat) (w : World) (h : Ints .i64 w a la ca (nl xs)) (h' : Ints .i64 w a' lb cb (nl ys)) (F1 : mfault R C (nl xs) = 0) (F2 : mfault C D (nl ys) = 0) :
    Calls Tryd.prog 7 #[mxv R C a la ca, mxv C D a' lb cb] w fun e w' => ∃ g, e = .returned (.agg #[.int .i64 0, .int .i64 R, .int .i64 D, .slice (some ⟨g, 0, none⟩) (R * D) (R * D)]) ∧ w.heap.size ≤ g ∧ Wr .i64 w' g 0 (nl (mulL xs ys R C D)) ∧ Below w.heap.size w w' := by
  have hla : la = R * C := by have := h.1; rw [nl_len] at this; omega
  have hlb : lb = C * D := by have := h'.1; rw [nl_len] at this; omega
  have hm1 : R * C ≤ 64 * 64 := Nat.mul_le_mul hR hC
  have hm2 : C * D ≤ 64 * 64 := Nat.mul_le_mul hC hD
  have hm3 : R * D ≤ 64 * 64 := Nat.mul_le_mul hR hD
  obtain ⟨q, hq⟩ : ∃ q, q = R * D := ⟨_, rfl⟩
  have hqi : (R : Int) * (D : Int) = (q : Int) := by rw [hq]; simp
  rw [← hq] at hm3 ⊢
  have hla2 : la ≤ 4096 := by omega
  have hlb2 : lb ≤ 4096 := by omega
  have G1 := hid F1
  have G2 := hid F2
  have HLA := hid hla
  have HLB := hid hlb
  have HXL := hid hxl
  have HYL := hid hyl
  have HQ := hid hq
  have HQI := hid hqi
  have HX := hid hx
  have HY := hid hy
  have HH := hid h
  have HH' := hid h'
  clear F1 F2 hla hlb hxl hyl hq hqi hx hy h h' hm1 hm2
  go_enter Tryd.func7, Tryd.ntmps7
  go_wp2_with fail
  refine (sfault R C a la ca (nl xs) _ (((HH.out.alloc _).alloc _).alloc _) (by omega)).mono ?_
  rintro e w1 ⟨rfl, rfl⟩
  rw [G1.out]
  go_wp2_with fail
  refine (sfault C D a' lb cb (nl ys) _ ((((HH'.out.alloc _).alloc _).alloc _).alloc _) (by omega)).mono ?_
  rintro e w1 ⟨rfl, rfl⟩
  rw [G2.out]
  go_wp2_with fail
  refine (snew R D q _ HQI.out (by omega)).mono ?_
  rintro e w1 ⟨rfl, rfl⟩
  go_wp2
  go_loopw [6] (fun x wr => ∃ (I : Nat) (zs : List Nat), I ≤ R ∧ zs.take (I * D) = (mulL xs ys R C D).take (I * D) ∧ x = .int .i64 I ∧ MulSt w wr R C D a la ca a' lb cb q zs) (fun x _ => R - (intOf x).toNat)
  case atStart =>
    refine ⟨0, List.replicate q 0, Nat.zero_le _, by rw [Nat.zero_mul, List.take_zero, List.take_zero], rfl, ?_⟩
    refine ⟨?_, ?_, ?_, ?_, ?_, List.length_replicate, ?_⟩
    · exact (((((((RowAt.new w _ _).alloc _).alloc _).alloc _).alloc _).alloc _).alloc _).alloc _
    · exact ((((((RowAt.next _ _ _ (by simp only [size_al])).alloc _).alloc _).alloc _).alloc _).alloc _).alloc _
    · exact (((((RowAt.next _ _ _ (by simp only [size_al])).alloc _).alloc _).alloc _).alloc _).alloc _
    · exact RowAt.next _ _ _ (by simp only [size_al])
    · rw [nl_zeros]; exact (Wr.of (RowAt.next _ _ _ (by simp only [size_al]))).alloc _
    · exact ((((((((Below.refl _ _).alloc (Nat.le_refl _) _).alloc (by simp only [size_al]; omega) _).alloc (by simp only [size_al]; omega) _).alloc (by simp only [size_al]; omega) _).alloc (by simp only [size_al]; omega) _).alloc (by simp only [size_al]; omega) _).alloc (by simp only [size_al]; omega) _).alloc (by simp only [size_al]; omega) _
  case round =>
    obtain ⟨I, zs, hI, htk, rfl, st⟩ := hrel
    have HT := hid htk
    have ST := hid st
    have a0 := st.A0.cell 0
    have b1 := st.B0.cell 1
    clear htk st
    by_cases hIR : I < R
    · have hIR' : (I : Int) < (R : Int) := by omega
      go_wp2
      go_loopw [7] (fun x wr => ∃ (J : Nat) (zs : List Nat), J ≤ D ∧ zs.take (I * D + J) = (mulL xs ys R C D).take (I * D + J) ∧ x = .int .i64 J ∧ MulSt w wr R C D a la ca a' lb cb q zs) (fun x _ => D - (intOf x).toNat)
      case atStart => exact ⟨0, zs, Nat.zero_le _, HT.out, rfl, ST.out⟩
      case round =>
        obtain ⟨J, zs2, hJ, htk, rfl, st⟩ := hrel
        have HT2 := hid htk
        have ST2 := hid st
        clear htk st a0 b1
        have b1 := ST2.out.B0.cell 1
        by_cases hJD : J < D
        · have hJD' : (J : Int) < (D : Int) := by omega
          go_wp2
          go_loopw [8, 9] (fun x y wr => ∃ (K : Nat), K ≤ C ∧ x = .int .i64 (dotN xs ys C D I J K : Nat) ∧ y = .int .i64 K ∧ MulSt w wr R C D a la ca a' lb cb q zs2) (fun _ y _ => C - (intOf y).toNat)
          case atStart => exact ⟨0, Nat.zero_le _, rfl, rfl, ST2.out⟩
          case round =>
            obtain ⟨K, hK, rfl, rfl, st⟩ := hrel
            have ST3 := hid st
            clear st b1
            obtain ⟨X, hX⟩ : ∃ X, X = dotN xs ys C D I J K := ⟨_, rfl⟩
            have hXl : X < 256 := by rw [hX]; exact dotN_lt HX.out C D I J K
            rw [← hX]
            have HXX := hid hX
            clear hX
            by_cases hKC : K < C
            · have hKC' : (K : Int) < (C : Int) := by omega
              obtain ⟨q1, hq1⟩ : ∃ q1, q1 = I * C := ⟨_, rfl⟩
              obtain ⟨q2, hq2⟩ : ∃ q2, q2 = K * D := ⟨_, rfl⟩
              have Q1 : Hid ((I : Int) * (C : Int) = (q1 : Int)) := by show _ = _; rw [hq1]; simp
              have Q2 : Hid ((K : Int) * (D : Int) = (q2 : Int)) := by show _ = _; rw [hq2]; simp
              have B1 : q1 + K < la := by rw [hq1, HLA.out]; exact mul_pos_lt hIR hKC
              have B2 : q2 + J < lb := by rw [hq2, HLB.out]; exact mul_pos_lt hKC hJD
              obtain ⟨U, hU⟩ : ∃ U, xs.getD (q1 + K) 0 = U := ⟨_, rfl⟩
              obtain ⟨V, hV⟩ : ∃ V, ys.getD (q2 + J) 0 = V := ⟨_, rfl⟩
              have hUl : U < 256 := by rw [← hU]; exact HX.out _
              have hVl : V < 256 := by rw [← hV]; exact HY.out _
              have hPl : gm 8 29 U V < 256 := gm_lt fld8.toFld V hUl
              have eX := i64_xor_nat X (gm 8 29 U V) (by omega) (by omega)
              have HS : Hid (X ^^^ gm 8 29 U V = dotN xs ys C D I J (K + 1)) := by
                show _ = dotN xs ys C D I J K ^^^ gm 8 29 (xs.getD (I * C + K) 0) (ys.getD (K * D + J) 0)
                rw [← hq1, ← hq2, hU, hV, ← HXX.out]
              have HU := hid hU
              have HV := hid hV
              clear hq1 hq2 hU hV
              have e0 := ST3.out.A0.cell 0
              have e1 := ST3.out.A0.cell 1
              have e2 := ST3.out.A0.cell 2
              have e3 := ST3.out.B0.cell 0
              have e4 := ST3.out.B0.cell 1
              have e5 := ST3.out.B0.cell 2
              have l0 := ST3.out.A0.lt
              have l1 := ST3.out.B0.lt
              have iA := hid (HH.out.below ST3.out.bel)
              have iB := hid (HH'.out.below ST3.out.bel)
              go_wp2_with fail
              go_region_with ((first
                | (go_at_call_of 23 (Value.slice a la ca); refine (satn R C I K q1 U a la ca xs _ ?_ Q1 B1 (by omega) HU).mono ?_; exact iA.out.below (Below.refl _ _).drew; rintro e w4 ⟨rfl, rfl⟩)
                | (go_at_call_of 23 (Value.slice a' lb cb); refine (satn C D K J q2 V a' lb cb ys _ ?_ Q2 B2 (by omega) HV).mono ?_; exact iB.out.below (below_drew_alloc _ _); rintro e w4 ⟨rfl, rfl⟩)
                | (go_at_call 22; refine (smul8n U V hUl hVl _).mono ?_; rintro e w4 ⟨rfl, rfl⟩)))
              all_goals go_wp2
              all_goals
                go_roundw
                case rel => exact ⟨K + 1, by omega, by rw [HS.out], by go_num, ST3.out.below (((Below.refl _ _).alloc (Nat.le_refl _) _).alloc (by rw [size_al]; omega) _).drew⟩
                case measure => simp [intOf]; omega
            · have hKe : K = C := by omega
              subst hKe
              obtain ⟨q3, hq3⟩ : ∃ q3, q3 = I * D := ⟨_, rfl⟩
              have Q3 : (I : Int) * (D : Int) = (q3 : Int) := by rw [hq3]; simp
              have B3 : q3 + J < q := by rw [hq3, HQ.out]; exact mul_pos_lt hIR hJD
              have i1 : ((q3 : Int) + (J : Int)) < (q : Int) := by omega
              have i0 : (0 : Int) ≤ (q3 : Int) + (J : Int) := by omega
              have e9 : ((q3 : Int) + (J : Int)).toNat = q3 + J := by omega
              have HT3 : Hid ((zs2.set (q3 + J) X).take (q3 + (J + 1)) = (mulL xs ys R K D).take (q3 + (J + 1))) := by
                have h0 := HT2.out
                rw [← hq3] at h0
                show _ = _
                rw [← Nat.add_assoc]
                exact take_set_nl (by rw [mulL_len, ← HQ.out]; exact B3) (by rw [ST3.out.len]; exact B3) h0 (by rw [hq3, mulL_at hIR hJD]; exact HXX.out.symm)
              have H3 := hid hq3
              clear hq3
              have e1 := ST3.out.A0.cell 1
              have m1 := ST3.out.M0.cell 1
              have m2 := ST3.out.M0.cell 2
              have f2 := ST3.out.Z.free (q3 + J)
              have z2 : wr.cell? ⟨w.heap.size + 1 + 1 + 1 + 1 + 1 + 1, q3 + J, none⟩ = some (.int .i64 ((nl zs2).getD (q3 + J) 0)) := by have := ST3.out.Z.cell (i := q3 + J) (by rw [nl_len, ST3.out.len]; exact B3); rwa [Nat.zero_add] at this
              have SN := hid (ST3.out.set (q3 + J) X B3)
              go_wp2
              go_roundw
              case rel => exact ⟨J + 1, zs2.set (q3 + J) X, by omega, by rw [← H3.out]; exact HT3.out, by go_num, SN.out⟩
              case measure => simp [intOf]; omega
        · have hJe : J = D := by omega
          subst hJe
          go_wp2
          go_roundw
          case rel => exact ⟨I + 1, zs2, by omega, by rw [Nat.succ_mul]; exact HT2.out, by go_num, ST2.out⟩
          case measure => simp [intOf]; omega
    · have hIe : I = R := by omega
      subst hIe
      have m0 := ST.out.M0.cell 0
      have m1 := ST.out.M0.cell 1
      have m2 := ST.out.M0.cell 2
      have HE : Hid (zs = mulL xs ys I C D) := by
        have h0 := HT.out
        rw [← HQ.out, List.take_of_length_le (by rw [ST.out.len]; exact Nat.le_refl _), List.take_of_length_le (by rw [mulL_len, ← HQ.out]; exact Nat.le_refl _)] at h0
        exact h0
      go_wp2_with (refine wpList_store_row rfl 28 (.tmp 4) (.tmp 71) rfl (w.heap.size + 1 + 1) #[.int .i64 0, .int .i64 I, .int .i64 D, .slice (some ⟨w.heap.size + 1 + 1 + 1 + 1 + 1 + 1, 0, none⟩) q q] rfl rfl _ _ ST.out.R0 (by kernel_rfl) rfl (one4 _ _ _ _ _ _) ?_)
      refine bodyPost_ret (v := .agg #[.int .i64 0, .int .i64 I, .int .i64 D, .slice (some ⟨w.heap.size + 1 + 1 + 1 + 1 + 1 + 1, 0, none⟩) q q]) ?_ rfl ⟨w.heap.size + 1 + 1 + 1 + 1 + 1 + 1, rfl, by omega, ?_, ?_⟩
      · exact results_cell_row Tryd.results7 _ _ (w.heap.size + 1 + 1) _ _ _ _ rfl (ST.out.R0.setRow _) Tryd.underlying28 rfl (by kernel_rfl)
      · rw [← HE.out]; exact wr_setRow ST.out.Z _ (by omega)
      · exact below_setRow ST.out.bel _ _ (by omega)
end Go.Proofs.YtlobnmcjnaibaajDoor
