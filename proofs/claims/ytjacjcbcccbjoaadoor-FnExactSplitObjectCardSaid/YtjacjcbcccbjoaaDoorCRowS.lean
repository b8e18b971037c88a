import Derived.Test.YtjacjcbcccbjoaaDoorCRows
import Derived.Test.YtjacjcbcccbjoaaDoorAnsKit
namespace Go.Proofs.YtjacjcbcccbjoaaDoor
open Go.RowKit
/-- a row's factors -/
def rowL (K M G i : Nat) : List Nat := (List.range K).map (rowN K M G i)
theorem rowL_len (K M G i : Nat) : (rowL K M G i).length = K := by simp [rowL]
theorem rowL_at {K M G i d : Nat} (h : d < K) : (rowL K M G i).getD d 0 = rowN K M G i d := by
  unfold rowL; rw [List.getD_eq_getElem?_getD, List.getElem?_map, List.getElem?_range h]; rfl
/-- an answer of numbers in new memory -/
def AnsI (xs : List Int) (w : World) (e : Ending) (w' : World) : Prop := ∃ a len cap, e = .returned (.slice a len cap) ∧ Ow w' w.heap.size a len cap xs ∧ Below w.heap.size w w'
theorem AnsI.no {a : Option Addr} {w w' : World} {e : Ending} (h : e = .returned (.slice a 0 0)) (hb : Below w.heap.size w w') : AnsI [] w e w' := ⟨a, 0, 0, h, ⟨rfl, Nat.le_refl _, Or.inl rfl⟩, hb⟩
theorem take_nl_eq {xs ys : List Nat} {n : Nat} (hx : xs.length = n) (hy : ys.length = n) (h : ∀ d, d < n → xs.getD d 0 = ys.getD d 0) : xs = ys := by
  apply List.ext_getElem?
  intro d
  by_cases hd : d < n
  · have := h d hd
    rw [List.getD_eq_getElem?_getD, List.getD_eq_getElem?_getD, List.getElem?_eq_getElem (by omega), List.getElem?_eq_getElem (by omega)] at this
    rw [List.getElem?_eq_getElem (by omega), List.getElem?_eq_getElem (by omega)]
    exact congrArg some this
  · rw [List.getElem?_eq_none (by omega), List.getElem?_eq_none (by omega)]
theorem getD_setN (zs : List Nat) (i x p : Nat) (hi : i < zs.length) : (zs.set i x).getD p 0 = if p = i then x else zs.getD p 0 := by
  rw [List.getD_eq_getElem?_getD]
  by_cases e : p = i
  · subst e; rw [List.getElem?_set_self hi, if_pos rfl]; rfl
  · rw [List.getElem?_set_ne (by omega), if_neg e, List.getD_eq_getElem?_getD]
theorem rowN_lt {K M G i j : Nat} (h5 : K + M + G ≤ 64) (hi : i < K + M + G) (hj : j < K) : rowN K M G i j < 256 := by
  unfold rowN
  rw [if_pos hj]
  split
  · split <;> decide
  · split
    · exact gp_lt fld8.toFld (Nat.xor_lt_two_pow (n := 8) (by omega) (by omega)) 254
    · repeat' split
      all_goals decide
set_option maxRecDepth 20000 in
set_option maxHeartbeats 4000000 in
theorem scrow_no (k m g i : Int) (w : World) (hno : ¬ (cfault k m g = 0 ∧ 0 ≤ i ∧ i < k + m + g)) :
    Calls Tryd.prog 34 #[cdv k m g, .int .i64 i] w fun e w' => AnsI [] w e w' := by
  rcases cfault_01 k m g with hf | hf
  · obtain ⟨K, M, G, rfl, rfl, rfl, h1, h2, h3, h4, h5⟩ := cfault_ok hf
    by_cases hi : i < 0
    · have d0 : decide (i < 0) = true := by simpa using hi
      go_enter Tryd.func34, Tryd.ntmps34
      go_wp2_with fail
      refine (sCfault _ _ _ _).mono ?_
      rintro e w1 ⟨rfl, rfl⟩
      rw [hf]
      clear hf
      go_wp2
      go_ret
      exact AnsI.no rfl (bal (bal (bal (Below.refl _ _) _ (Nat.le_refl _)) _ (Nat.le_refl _)) _ (Nat.le_refl _))
    · have d0 : decide (i < 0) = false := by simpa using hi
      have d1 : decide ((K : Int) + M + G ≤ i) = true := by simp; have := fun h => hno ⟨hf, by omega, h⟩; omega
      go_enter Tryd.func34, Tryd.ntmps34
      go_wp2_with fail
      refine (sCfault _ _ _ _).mono ?_
      rintro e w1 ⟨rfl, rfl⟩
      rw [hf]
      clear hf hno
      go_wp2
      go_ret
      exact AnsI.no rfl (bal (bal (bal (Below.refl _ _) _ (Nat.le_refl _)) _ (Nat.le_refl _)) _ (Nat.le_refl _))
  · go_enter Tryd.func34, Tryd.ntmps34
    go_wp2_with fail
    refine (sCfault _ _ _ _).mono ?_
    rintro e w1 ⟨rfl, rfl⟩
    rw [hf]
    clear hf hno
    go_wp2
    go_ret
    exact AnsI.no rfl (bal (bal (bal (Below.refl _ _) _ (Nat.le_refl _)) _ (Nat.le_refl _)) _ (Nat.le_refl _))
/-- what is kept while a row is made -/
structure CrSt (w wr : World) (K M G : Nat) (rb : Nat) (zs : List Nat) : Prop where
  C : RowAt wr w.heap.size 28 (cda K M G)
  Z : Wr .i64 wr rb 0 (nl zs)
  len : zs.length = K
  B : Below w.heap.size w wr
  o : w.heap.size < rb
theorem CrSt.below {w wr w2 : World} {K M G : Nat} {rb : Nat} {zs : List Nat} (h : CrSt w wr K M G rb zs) (hb : Below wr.heap.size wr w2) : CrSt w w2 K M G rb zs :=
  ⟨h.C.below hb h.C.lt, h.Z.below hb h.Z.lt, h.len, h.B.trans (hb.mono h.B.size), h.o⟩
theorem CrSt.drewN {w wr : World} {K M G : Nat} {rb : Nat} {zs : List Nat} (h : CrSt w wr K M G rb zs) (n : Nat) : CrSt w (wr.drewN n) K M G rb zs := ⟨h.C.drewN n, h.Z.drewN n, h.len, below_drewN' h.B n, h.o⟩
theorem CrSt.drew {w wr : World} {K M G : Nat} {rb : Nat} {zs : List Nat} (h : CrSt w wr K M G rb zs) : CrSt w wr.drew K M G rb zs := ⟨h.C.drew, h.Z.drew, h.len, h.B.drew, h.o⟩
theorem CrSt.set {w wr : World} {K M G : Nat} {rb : Nat} {zs : List Nat} (h : CrSt w wr K M G rb zs) (i x : Nat) (hi : i < K) : CrSt w (wr.setCell ⟨rb, i, none⟩ (.int .i64 (x : Int))) K M G rb (zs.set i x) := by
  have ho := h.o
  refine ⟨h.C.other _ _ (by dsimp only; omega), ?_, by rw [List.length_set]; exact h.len, h.B.setCell (by dsimp only; omega) _, ho⟩
  have := h.Z.set i (x : Int) (by rw [nl_len, h.len]; exact hi)
  rw [Nat.zero_add, nl_set] at this; exact this
theorem CrSt.ans {w wr : World} {K M G : Nat} {rb : Nat} {zs : List Nat} (h : CrSt w wr K M G rb zs) : AnsI (nl zs) w (.returned (.slice (some ⟨rb, 0, none⟩) K K)) wr := by
  have e : (nl zs).length = K := by rw [nl_len]; exact h.len
  have hb := Nat.le_of_lt h.o
  have := h.Z.ow (cap := (nl zs).length) (Nat.le_refl _) hb
  rw [e] at this
  exact ⟨_, _, _, rfl, this, h.B⟩
set_option maxRecDepth 20000 in
set_option maxHeartbeats 4000000 in
theorem scrow_ok (K M G i : Nat) (h1 : 1 ≤ K) (h2 : K ≤ 32) (h3 : M ≤ 16) (h4 : G ≤ K) (h5 : K + M + G ≤ 64) (hi : i < K + M + G) (w : World) :
    Calls Tryd.prog 34 #[cdv K M G, .int .i64 i] w fun e w' => AnsI (nl (rowL K M G i)) w e w' := by
  have hf : Hid (cfault K M G = 0) := cfault_of h1 h2 h3 h4 h5
  have d0 : decide ((i : Int) < 0) = false := by simp
  have d1 : decide ((K : Int) + M + G ≤ (i : Int)) = false := by simp; omega
  have hmk := fun w => mk64 w K (by omega)
  go_enter Tryd.func34, Tryd.ntmps34
  go_wp2_with fail
  refine (sCfault _ _ _ _).mono ?_
  rintro e w1 ⟨rfl, hw1⟩
  rw [hf.out]
  have C1 : Hid (RowAt w1 w.heap.size 28 (cda K M G)) := by rw [hw1]; exact (RowAt.new w _ _).alloc _
  have B1 : Hid (Below w.heap.size w w1) := by rw [hw1]; exact bal (bal (Below.refl _ _) _ (Nat.le_refl _)) _ (Nat.le_refl _)
  have l1 : w.heap.size < w1.heap.size := C1.out.lt
  have c0 : w1.cell? ⟨w.heap.size, 0, none⟩ = some (.int .i64 K) := C1.out.cell 0
  have c1 : w1.cell? ⟨w.heap.size, 1, none⟩ = some (.int .i64 M) := C1.out.cell 1
  have c2 : w1.cell? ⟨w.heap.size, 2, none⟩ = some (.int .i64 G) := C1.out.cell 2
  clear hw1
  have S0 : Hid (CrSt w (w1.alloc (.cells (ints .i64 (List.replicate K 0)) 2)) K M G w1.heap.size (List.replicate K 0)) := by
    refine ⟨C1.out.alloc _, ?_, List.length_replicate, bal B1.out _ (Nat.le_refl _), l1⟩
    rw [nl_zeros]; exact Wr.of (RowAt.new w1 _ _)
  go_upto_region 9 with fail
  obtain ⟨W2, hW2⟩ : ∃ W2, W2 = w1.alloc (.cells (ints .i64 (List.replicate K 0)) 2) := ⟨_, rfl⟩
  rw [← hW2] at S0 ⊢
  clear hW2 C1 B1 c0 c1 c2 hmk
  have c0 : W2.cell? ⟨w.heap.size, 0, none⟩ = some (.int .i64 K) := S0.out.C.cell 0
  have c1 : W2.cell? ⟨w.heap.size, 1, none⟩ = some (.int .i64 M) := S0.out.C.cell 1
  by_cases a1 : i < K
  · have a1' : (i : Int) < (K : Int) := by omega
    have i0 : (0 : Int) ≤ (i : Int) := by omega
    have N1 := hid (S0.out.set i 1 a1)
    have cz := S0.out.Z.cell (i := i) (by rw [nl_len, List.length_replicate]; exact a1)
    have fz := S0.out.Z.free i
    rw [Nat.zero_add] at cz
    have E : Hid ((List.replicate K 0).set i 1 = rowL K M G i) := take_nl_eq (n := K) (by simp) (rowL_len _ _ _ _) fun d hd => by
      rw [getD_setN _ _ _ _ (by simpa using a1), rowL_at hd]
      unfold rowN
      rw [if_pos hd, if_pos a1]
      by_cases e : d = i
      · rw [if_pos e, if_pos e.symm]
      · rw [if_neg e, if_neg (fun h => e h.symm), List.getD_eq_getElem?_getD, List.getElem?_replicate, if_pos hd]; rfl
    go_wp2
    go_ret
    rw [← E.out]
    exact N1.out.ans
  have a1' : ¬ (i : Int) < (K : Int) := by omega
  by_cases a2 : i < K + M
  · have a2' : (i : Int) < (K : Int) + (M : Int) := by omega
    go_wp2_with fail
    clear c0 c1
    go_loopw [6] (fun y wr => ∃ (j : Nat) (zs : List Nat), j ≤ K ∧ y = .int .i64 j ∧ CrSt w wr K M G w1.heap.size zs ∧ ∀ d, d < j → zs.getD d 0 = rowN K M G i d) (fun y _ => K - (intOf y).toNat)
    case atStart => exact ⟨0, _, Nat.zero_le _, rfl, S0.out, fun d hd => absurd hd (Nat.not_lt_zero _)⟩
    case round =>
      obtain ⟨j, zs, hj, rfl, hst, hzs⟩ := hrel
      have ST := hid hst
      have HZ := hid hzs
      clear hst hzs S0
      have c0 : wr.cell? ⟨w.heap.size, 0, none⟩ = some (.int .i64 K) := ST.out.C.cell 0
      by_cases hlt : j < K
      · have hlt' : (j : Int) < (K : Int) := by omega
        have j0 : (0 : Int) ≤ (j : Int) := by omega
        have e1 : bits .xor .i64 (i : Int) (j : Int) = ((i ^^^ j : Nat) : Int) := i64_xor_nat _ _ (by omega) (by omega)
        obtain ⟨X, hX⟩ : ∃ X, X = i ^^^ j := ⟨_, rfl⟩
        have hX8 : X < 256 := by rw [hX]; exact Nat.xor_lt_two_pow (n := 8) (by omega) (by omega)
        obtain ⟨V, hV⟩ : ∃ V, gp 8 29 X 254 = V := ⟨_, rfl⟩
        have HV := hid hV
        have RN : Hid (rowN K M G i j = V) := by
          show _ = _
          unfold rowN
          rw [if_pos hlt, if_neg (by omega), if_pos a2, ← hX, hV]
        rw [← hX] at e1
        clear hX hV
        go_wp2_with fail
        refine (sinv8v X V hX8 HV _).mono ?_
        rintro e w3 ⟨rfl, rfl⟩
        have cz := ST.out.Z.cell (i := j) (by rw [nl_len, ST.out.len]; exact hlt)
        have fz := ST.out.Z.free j
        rw [Nat.zero_add] at cz
        have N1 := hid (ST.out.set j V hlt)
        have NZ : Hid (∀ d, d < j + 1 → (zs.set j V).getD d 0 = rowN K M G i d) := fun d hd => by
          rw [getD_setN _ _ _ _ (by rw [ST.out.len]; exact hlt)]
          by_cases e : d = j
          · rw [if_pos e, e, RN.out]
          · rw [if_neg e]; exact HZ.out d (by omega)
        clear ST HZ
        go_wp2
        go_roundw
        case rel => exact ⟨j + 1, _, by omega, by go_num, N1.out, NZ.out⟩
        case measure => simp [intOf]; omega
      · have hje : j = K := by omega
        have E : Hid (zs = rowL K M G i) := take_nl_eq (n := K) ST.out.len (rowL_len _ _ _ _) fun d hd => by rw [rowL_at hd]; exact HZ.out d (by omega)
        have hlt' : ¬ (j : Int) < (K : Int) := by omega
        have AN := hid ST.out.ans
        rw [E.out] at AN
        clear hje ST HZ E
        go_wp2
        go_ret
        exact AN.out
  · have a2' : ¬ (i : Int) < (K : Int) + (M : Int) := by omega
    go_wp2_with fail
    clear c0 c1
    have hG0 : 0 < G := by omega
    go_loopw [7] (fun y wr => ∃ (j : Nat) (zs : List Nat), j ≤ K ∧ y = .int .i64 j ∧ CrSt w wr K M G w1.heap.size zs ∧ (∀ d, d < j → zs.getD d 0 = rowN K M G i d) ∧ ∀ d, j ≤ d → zs.getD d 0 = 0) (fun y _ => K - (intOf y).toNat)
    case atStart => exact ⟨0, _, Nat.zero_le _, rfl, S0.out, fun d hd => absurd hd (Nat.not_lt_zero _), fun d _ => by rw [List.getD_eq_getElem?_getD, List.getElem?_replicate]; split <;> rfl⟩
    case round =>
      obtain ⟨j, zs, hj, rfl, hst, hzs, hz0⟩ := hrel
      have ST := hid hst
      have HZ := hid hzs
      have H0 := hid hz0
      clear hst hzs hz0 S0
      have c0 : wr.cell? ⟨w.heap.size, 0, none⟩ = some (.int .i64 K) := ST.out.C.cell 0
      have c1 : wr.cell? ⟨w.heap.size, 1, none⟩ = some (.int .i64 M) := ST.out.C.cell 1
      have c2 : wr.cell? ⟨w.heap.size, 2, none⟩ = some (.int .i64 G) := ST.out.C.cell 2
      by_cases hlt : j < K
      · have hlt' : (j : Int) < (K : Int) := by omega
        have j0 : (0 : Int) ≤ (j : Int) := by omega
        have g0 : ¬ (G : Int) = 0 := by omega
        have g1 : ((G : Int) == 0) = false := by simp; omega
        obtain ⟨Q, hQ⟩ : ∃ Q, Q = j % G := ⟨_, rfl⟩
        obtain ⟨P, hP⟩ : ∃ P, P = i - K - M := ⟨_, rfl⟩
        have e1 : (j : Int) % (G : Int) = (Q : Int) := by rw [hQ]; simp
        have e1' : (j : Int).tmod (G : Int) = (Q : Int) := by rw [Int.tmod_eq_emod_of_nonneg j0]; exact e1
        have e2 : (i : Int) - (K : Int) - (M : Int) = (P : Int) := by omega
        have RN : Hid (rowN K M G i j = if Q = P then 1 else 0) := by
          show _ = _
          unfold rowN
          rw [if_pos hlt, if_neg (by omega), if_neg a2, if_pos hi, hQ, hP]
        have cz := ST.out.Z.cell (i := j) (by rw [nl_len, ST.out.len]; exact hlt)
        have fz := ST.out.Z.free j
        rw [Nat.zero_add] at cz
        clear hQ hP
        by_cases hqp : Q = P
        · subst hqp
          have NZ : Hid (∀ d, d < j + 1 → (zs.set j 1).getD d 0 = rowN K M G i d) := fun d hd => by
            rw [getD_setN _ _ _ _ (by rw [ST.out.len]; exact hlt)]
            by_cases e : d = j
            · rw [if_pos e, e, RN.out, if_pos rfl]
            · rw [if_neg e]; exact HZ.out d (by omega)
          have N0 : Hid (∀ d, j + 1 ≤ d → (zs.set j 1).getD d 0 = 0) := fun d hd => by
            rw [getD_setN _ _ _ _ (by rw [ST.out.len]; exact hlt), if_neg (by omega)]; exact H0.out d (by omega)
          clear HZ H0
          go_wp2_with fail
          go_quiet (fail)
          go_wp2
          go_roundw
          case rel => exact ⟨j + 1, _, by omega, by go_num, (ST.out.drewN nq).set j 1 hlt, NZ.out, N0.out⟩
          case measure => simp [intOf]; omega
        · have dq : ((Q : Int) == (P : Int)) = false := by simp; omega
          have NZ : Hid (∀ d, d < j + 1 → zs.getD d 0 = rowN K M G i d) := fun d hd => by
            by_cases e : d = j
            · rw [e, RN.out, if_neg hqp]; exact H0.out j (Nat.le_refl _)
            · exact HZ.out d (by omega)
          have N0 : Hid (∀ d, j + 1 ≤ d → zs.getD d 0 = 0) := fun d hd => H0.out d (by omega)
          clear HZ H0
          go_wp2_with fail
          go_quiet (fail)
          go_wp2
          go_roundw
          case rel => exact ⟨j + 1, zs, by omega, by go_num, ST.out.drewN nq, NZ.out, N0.out⟩
          case measure => simp [intOf]; omega
      · have hje : j = K := by omega
        have E : Hid (zs = rowL K M G i) := take_nl_eq (n := K) ST.out.len (rowL_len _ _ _ _) fun d hd => by rw [rowL_at hd]; exact HZ.out d (by omega)
        have hlt' : ¬ (j : Int) < (K : Int) := by omega
        have AN := hid ST.out.ans
        rw [E.out] at AN
        clear hje ST HZ E
        go_wp2
        go_ret
        exact AN.out
end Go.Proofs.YtjacjcbcccbjoaaDoor
