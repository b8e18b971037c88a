import Derived.Test.YtlobnmcjnaibaaaDoorRIEquals
namespace Go.Proofs.YtlobnmcjnaibaaaDoorR
open Go.RowKit
theorem part_row {N C I i j o : Nat} (ho : o + C ≤ N) (hj : j < N) : (I * N + o ≤ i * N + j ∧ i * N + j < I * N + o + C) ↔ (i = I ∧ o ≤ j ∧ j < o + C) := by
  constructor
  · rintro ⟨h1, h2⟩
    have e := (in_row (C := N) (i := i) (k := I) hj).1 (by omega)
    subst e; omega
  · rintro ⟨rfl, h1, h2⟩; omega
theorem mo_lay {N C I i j o : Nat} {zs zs' : List Nat} {fs : Nat → Nat} (h : ∀ p, zs'.getD p 0 = layN zs (I * N + o) C fs p) (ho : o + C ≤ N) (hj : j < N) : mo N zs' i j = if i = I ∧ o ≤ j ∧ j < o + C then fs (j - o) else mo N zs i j := by
  unfold mo; rw [h]; unfold layN
  by_cases e : i = I ∧ o ≤ j ∧ j < o + C
  · rw [if_pos ((part_row ho hj).2 e), if_pos e]
    obtain ⟨rfl, _, _⟩ := e
    congr 1; omega
  · rw [if_neg (fun h => e ((part_row ho hj).1 h)), if_neg e]
theorem lay_small {zs zs' : List Nat} {o n : Nat} {fs : Nat → Nat} (h : ∀ p, zs'.getD p 0 = layN zs o n fs p) (hz : Small zs) (hf : ∀ k, fs k < 256) : Small zs' := fun p => by
  rw [h]; unfold layN; split
  · exact hf _
  · exact hz p
theorem zeros_small (q : Nat) : Small (List.replicate q 0) := fun p => by rw [List.getD_eq_getElem?_getD, List.getElem?_replicate]; split <;> decide
theorem zeros_at (q p : Nat) : (List.replicate q 0).getD p 0 = 0 := by rw [List.getD_eq_getElem?_getD, List.getElem?_replicate]; split <;> rfl
theorem set_small {zs : List Nat} (h : Small zs) (i x : Nat) (hx : x < 256) : Small (zs.set i x) := fun p => by
  by_cases hi : i < zs.length
  · rw [getD_set _ _ _ _ hi]; split
    · exact hx
    · exact h p
  · rw [List.set_eq_of_length_le (by omega)]; exact h p
set_option maxRecDepth 20000 in
set_option maxHeartbeats 4000000 in
theorem iunitG (n q : Nat) (hn1 : 1 ≤ n) (hn : n ≤ 64) (hq : q = n * n) (w : World) :
    Calls Tryd.prog 42 #[.int .i64 n] w fun e w' => ∃ g zs, e = .returned (grv n n g q) ∧ w.heap.size ≤ g ∧ Gr w' g zs ∧ zs.length = q ∧ Small zs ∧ (∀ i j, i < n → j < n → mo n zs i j = if i = j then 1 else 0) ∧ Below w.heap.size w w' := by
  have hqb : q ≤ 64 * 64 := by rw [hq]; exact Nat.mul_le_mul hn hn
  have hq8 : q ≤ 8192 := by omega
  have hqi : Hid ((n : Int) * (n : Int) = (q : Int)) := by show _ = _; rw [hq]; simp
  have HQ := hid hq
  clear hq hqb
  go_enter Tryd.func42, Tryd.ntmps42
  go_wp2_with fail
  refine (inewB n n q _ hqi (by omega)).mono ?_
  rintro e w1 ⟨g, rfl, hg, hG, hb⟩
  have S0 := hid (NgSt.start (R := n) (C := n) (q := q) hG List.length_replicate hb hg)
  have R0' : Hid (RowAt (w.alloc (.cells #[.int .i64 0, .int .i64 0, .slice none 0 0] 46)) w.heap.size 46 #[.int .i64 0, .int .i64 0, .slice none 0 0]) := RowAt.new w _ _
  have B0 : Hid (Below w.heap.size w (w.alloc (.cells #[.int .i64 0, .int .i64 0, .slice none 0 0] 46))) := (Below.refl _ _).alloc (Nat.le_refl _) _
  obtain ⟨W, hW⟩ : ∃ W, W = w.alloc (.cells #[.int .i64 0, .int .i64 0, .slice none 0 0] 46) := ⟨_, rfl⟩
  have hWs : W.heap.size = w.heap.size + 1 := by rw [hW, size_al]
  obtain ⟨m, hm⟩ : ∃ m, m = w1.heap.size := ⟨_, rfl⟩
  rw [← hW] at S0 R0' B0 hg
  clear hb hG hW
  go_wp2
  rw [← hm] at S0 ⊢
  clear hm
  go_loopw [9] (fun x wr => ∃ (I : Nat) (zs : List Nat), I ≤ n ∧ x = .int .i64 I ∧ NgSt W wr m g n n q zs ∧ Small zs ∧ (∀ i j, i < n → j < n → mo n zs i j = if i < I ∧ i = j then 1 else 0)) (fun x _ => n - (intOf x).toNat)
  case atStart => exact ⟨0, _, Nat.zero_le _, rfl, S0.out, zeros_small q, fun i j _ _ => by unfold mo; rw [zeros_at, if_neg (by omega)]⟩
  case round =>
    obtain ⟨I, zs, hI, rfl, hS, hsm, hmo⟩ := hrel
    have HS := hid hS
    have SM := hid hsm
    have HM := hid hmo
    clear hS hsm hmo S0
    by_cases hlt : I < n
    · have hlt' : (I : Int) < (n : Int) := by omega
      have i0 : (0 : Int) ≤ (I : Int) := by omega
      have bq : I * n + I < zs.length := by rw [HS.out.len, HQ.out]; exact mul_pos_lt hlt hlt
      have HM' : Hid (∀ i j, i < n → j < n → mo n (zs.set (I * n + I) 1) i j = if i < I + 1 ∧ i = j then 1 else 0) := fun i j hi hj => by
        rw [mo_set bq hlt hj]
        by_cases e : i = I ∧ j = I
        · rw [if_pos e, if_pos (by omega)]
        · rw [if_neg e, HM.out i j hi hj]
          by_cases e2 : i < I ∧ i = j
          · rw [if_pos e2, if_pos (by omega)]
          · rw [if_neg e2, if_neg (by omega)]
      have SM' := hid (set_small SM.out (I * n + I) 1 (by decide))
      have r0 := HS.out.M0
      go_wp2_with (refine wpList_load_row rfl 46 (.tmp 3) rfl m rfl _ _ _ _ r0 Tryd.underlying46 rfl (by kernel_rfl) ?_)
      refine (irowF n n g q I hq8 HQ hn hn1 hlt _).mono ?_
      rintro e w2 ⟨rfl, rfl⟩
      have S2 := hid (HS.out.alloc (.cells #[.int .i64 n, .int .i64 n, .slice (some ⟨g, 0, none⟩) q q] 46))
      have f2 := S2.out.Z.free (I * n + I)
      have c2 := S2.out.Z.cell (i := I * n + I) bq
      have S3 := hid (S2.out.set (I * n + I) 1)
      clear r0
      go_wp2
      go_roundw
      case rel => exact ⟨I + 1, zs.set (I * n + I) 1, by omega, by go_num, S3.out, SM'.out, HM'.out⟩
      case measure => simp [intOf]; omega
    · have hie : I = n := by omega
      subst hie
      have R1 := hid (R0'.out.below HS.out.bel (by omega))
      have r0 := HS.out.M0
      have hml := HS.out.o2
      have hmg := HS.out.o3
      go_wp2_with (first
        | refine wpList_load_row rfl 46 (.tmp 3) rfl m rfl _ _ _ _ r0 Tryd.underlying46 rfl (by kernel_rfl) ?_
        | refine wpList_store_row rfl 46 (.tmp 2) (.tmp 18) rfl w.heap.size #[.int .i64 I, .int .i64 I, .slice (some ⟨g, 0, none⟩) q q] rfl rfl _ _ R1.out (by kernel_rfl) rfl (one3 _ _ _ _ _) ?_)
      refine bodyPost_ret (v := grv I I g q) ?_ rfl ⟨g, zs, rfl, by omega, ?_, HS.out.len, SM.out, ?_, ?_⟩
      · exact results_cell_row Tryd.results42 _ _ w.heap.size _ _ _ _ rfl (R1.out.setRow _) Tryd.underlying46 rfl (by kernel_rfl)
      · exact HS.out.Z.otherRow _ _ (by omega)
      · intro i j hi hj; rw [HM.out i j hi hj]
        by_cases e : i = j
        · rw [if_pos ⟨hi, e⟩, if_pos e]
        · rw [if_neg (fun h => e h.2), if_neg e]
      · exact below_setRow (B0.out.trans (HS.out.bel.mono (by omega))) _ _ (Nat.le_refl _)
end Go.Proofs.YtlobnmcjnaibaaaDoorR
