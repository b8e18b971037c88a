import Derived.Test.YtlobnmcjnaibaaaDoorRSRank
namespace Go.Proofs.YtlobnmcjnaibaaaDoorR
open Go.RowKit
def augN (n : Nat) (A : Nat → Nat → Nat) (i j : Nat) : Nat := if j < n then A i j else if j - n = i then 1 else 0
theorem fm_aug {n : Nat} {A B : Nat → Nat → Nat} {i j : Nat} (h : B i j = augN n A i j) : fm B i j = aug n (fm A) i j := by
  rw [fm_congr h]
  unfold fm aug augN
  by_cases e : j < n
  · simp only [e, if_true]
  · by_cases e2 : j - n = i
    · simp only [e, e2, if_false, if_true]; rfl
    · simp only [e, e2, if_false]; rfl
theorem aug_sm {n N : Nat} {A B : Nat → Nat → Nat} (hA : Sm n n A) (h : ∀ i j, i < n → j < N → B i j = augN n A i j) : Sm n N B := fun i j hi hj => by
  rw [h i j hi hj]; unfold augN; split
  · exact hA i j hi (by assumption)
  · split <;> decide
structure InvSt (w wr : World) (n N m q : Nat) (a : Option Addr) (len cap : Nat) (zs : List Nat) : Prop where
  B0 : RowAt wr w.heap.size 25 #[.int .i64 n, .int .i64 n, .slice a len cap]
  R0 : RowAt wr (w.heap.size + 1) 28 #[.int .i64 0, .int .i64 0, .int .i64 0, .slice none 0 0]
  M0 : RowAt wr (m + 1 + 1) 25 #[.int .i64 n, .int .i64 N, .slice (some ⟨m + 1, 0, none⟩) q q]
  Z : Wr .i64 wr (m + 1) 0 (nl zs)
  len : zs.length = q
  ml : w.heap.size + 1 + 1 ≤ m
  bel : Below w.heap.size w wr
theorem InvSt.alloc {w wr : World} {n N m q : Nat} {a : Option Addr} {len cap : Nat} {zs : List Nat} (h : InvSt w wr n N m q a len cap zs) (o : Obj) : InvSt w (wr.alloc o) n N m q a len cap zs := ⟨h.B0.alloc o, h.R0.alloc o, h.M0.alloc o, h.Z.alloc o, h.len, h.ml, h.bel.alloc h.bel.size o⟩
theorem InvSt.drew {w wr : World} {n N m q : Nat} {a : Option Addr} {len cap : Nat} {zs : List Nat} (h : InvSt w wr n N m q a len cap zs) : InvSt w wr.drew n N m q a len cap zs := ⟨h.B0, h.R0, h.M0, h.Z, h.len, h.ml, h.bel.drew⟩
theorem InvSt.set {w wr : World} {n N m q : Nat} {a : Option Addr} {len cap : Nat} {zs : List Nat} (h : InvSt w wr n N m q a len cap zs) (i x : Nat) (hi : i < q) : InvSt w (wr.setCell ⟨m + 1, i, none⟩ (.int .i64 x)) n N m q a len cap (zs.set i x) := by
  have hl := h.ml
  refine ⟨h.B0.other _ _ (by dsimp only; omega), h.R0.other _ _ (by dsimp only; omega), h.M0.other _ _ (by dsimp only; omega), ?_, by rw [List.length_set]; exact h.len, h.ml, h.bel.setCell (by dsimp only; omega) _⟩
  have := h.Z.set i (x : Int) (by rw [nl_len, h.len]; exact hi)
  rw [Nat.zero_add, nl_set] at this; exact this
theorem InvSt.grown {w wr w2 : World} {n N m q : Nat} {a : Option Addr} {len cap : Nat} {zs zs' : List Nat} (h : InvSt w wr n N m q a len cap zs) (hg : wr.grownBy w2 (some (m + 1))) (hz : Wr .i64 w2 (m + 1) 0 (nl zs')) (hl : zs'.length = q) : InvSt w w2 n N m q a len cap zs' := by
  have hm := h.ml
  exact ⟨h.B0.far hg (by intro e; injection e with e; omega), h.R0.far hg (by intro e; injection e with e; omega), h.M0.far hg (by intro e; injection e with e; omega), hz, hl, h.ml, h.bel.grown hg h.bel.size (fun k hk => by cases hk; omega)⟩
theorem InvSt.ints {w wr : World} {n N m q : Nat} {a : Option Addr} {len cap : Nat} {zs : List Nat} (h : InvSt w wr n N m q a len cap zs) : Ints .i64 wr (some ⟨m + 1, 0, none⟩) q q (nl zs) := by
  have := h.Z.ints (cap := q) (by rw [nl_len, h.len]; exact Nat.le_refl _)
  rw [nl_len, h.len] at this; exact this
theorem InvSt.at {w wr : World} {n N m q : Nat} {a : Option Addr} {len cap : Nat} {zs : List Nat} (h : InvSt w wr n N m q a len cap zs) {i : Nat} (hi : i < q) : wr.cell? ⟨m + 1, i, none⟩ = some (.int .i64 ((nl zs).getD i 0)) := by
  have := h.Z.cell (i := i) (by rw [nl_len, h.len]; exact hi); rwa [Nat.zero_add] at this
theorem satx (r : Int) (C i j q X : Nat) (jI : Int) (hj : jI = (j : Int)) (a : Option Addr) (len cap : Nat) (xs : List Nat) (w : World) (h : Ints .i64 w a len cap (nl xs)) (hq : Hid ((i : Int) * (C : Int) = (q : Int))) (hb : q + j < len) (hl : len ≤ 1048576) (HX : Hid (xs.getD (q + j) 0 = X)) :
    Calls Tryd.prog 28 #[mxv r C a len cap, .int .i64 i, .int .i64 jI] w fun e w' => e = .returned (.int .i64 X) ∧ w' = w.alloc (.cells #[.int .i64 r, .int .i64 C, .slice a len cap] 25) := by
  subst hj; exact satn r C i j q X a len cap xs w h hq hb hl HX
theorem fm_congr' {A B : Nat → Nat → Nat} {i j i' j' : Nat} (e : B i j = A i' j') : fm B i j = fm A i' j' := by unfold fm; simp only [e]
theorem IsInv.congr {n : Nat} {M X M' X' : Mx} (h : IsInv n M X) (e1 : ∀ i j, i < n → j < n → M' i j = M i j) (e2 : ∀ i j, i < n → j < n → X' i j = X i j) : IsInv n M' X' := fun i j hi hj => by
  rw [← h i j hi hj]; exact F.sm_congr n fun k hk => by rw [e1 i k hi hk, e2 k j hk hj]
structure OutSt (w wx wr : World) (n N m q len : Nat) (zs os : List Nat) : Prop where
  R0 : RowAt wr (w.heap.size + 1) 28 #[.int .i64 0, .int .i64 0, .int .i64 0, .slice none 0 0]
  M0 : RowAt wr (m + 1 + 1) 25 #[.int .i64 n, .int .i64 N, .slice (some ⟨m + 1, 0, none⟩) q q]
  Z : Ints .i64 wr (some ⟨m + 1, 0, none⟩) q q (nl zs)
  O0 : RowAt wr (wx.heap.size + 1 + 1) 25 #[.int .i64 n, .int .i64 n, .slice (some ⟨wx.heap.size + 1, 0, none⟩) len len]
  ZO : Wr .i64 wr (wx.heap.size + 1) 0 (nl os)
  len : os.length = len
  l1 : w.heap.size + 1 < wx.heap.size
  l2 : m + 1 + 1 < wx.heap.size
  bel : Below w.heap.size w wr
theorem OutSt.alloc {w wx wr : World} {n N m q len : Nat} {zs os : List Nat} (h : OutSt w wx wr n N m q len zs os) (o : Obj) : OutSt w wx (wr.alloc o) n N m q len zs os := ⟨h.R0.alloc o, h.M0.alloc o, h.Z.alloc o, h.O0.alloc o, h.ZO.alloc o, h.len, h.l1, h.l2, h.bel.alloc h.bel.size o⟩
theorem OutSt.drew {w wx wr : World} {n N m q len : Nat} {zs os : List Nat} (h : OutSt w wx wr n N m q len zs os) : OutSt w wx wr.drew n N m q len zs os := ⟨h.R0, h.M0, h.Z, h.O0, h.ZO, h.len, h.l1, h.l2, h.bel.drew⟩
theorem OutSt.set {w wx wr : World} {n N m q len : Nat} {zs os : List Nat} (h : OutSt w wx wr n N m q len zs os) (i x : Nat) (hi : i < len) : OutSt w wx (wr.setCell ⟨wx.heap.size + 1, i, none⟩ (.int .i64 x)) n N m q len zs (os.set i x) := by
  have h1 := h.l1
  have h2 := h.l2
  refine ⟨h.R0.other _ _ (by dsimp only; omega), h.M0.other _ _ (by dsimp only; omega), ?_, h.O0.other _ _ (by dsimp only; omega), ?_, by rw [List.length_set]; exact h.len, h.l1, h.l2, h.bel.setCell (by dsimp only; omega) _⟩
  · refine ⟨h.Z.1, h.Z.2.1, ?_⟩
    rcases h.Z.2.2 with h0 | ⟨b, off, e, hl, hc⟩
    · exact Or.inl h0
    · cases e
      refine Or.inr ⟨_, _, rfl, by simpa [World.setCell] using hl, fun j hj => ?_⟩
      have := Below.heap_setCell wr ⟨wx.heap.size + 1, i, none⟩ (.int .i64 x) (m + 1) (by dsimp only; omega)
      rw [← hc j hj]
      simp only [World.cell?]
      rw [this]
  · have := h.ZO.set i (x : Int) (by rw [nl_len, h.len]; exact hi)
    rw [Nat.zero_add, nl_set] at this; exact this
theorem OutSt.at {w wx wr : World} {n N m q len : Nat} {zs os : List Nat} (h : OutSt w wx wr n N m q len zs os) {i : Nat} (hi : i < len) : wr.cell? ⟨wx.heap.size + 1, i, none⟩ = some (.int .i64 ((nl os).getD i 0)) := by
  have := h.ZO.cell (i := i) (by rw [nl_len, h.len]; exact hi); rwa [Nat.zero_add] at this
set_option maxRecDepth 20000 in
set_option maxHeartbeats 8000000 in
theorem sinv_ok (n : Nat) (hn1 : 1 ≤ n) (hn : n ≤ 64) (xs : List Nat) (hs : Sm n n (mo n xs)) (a : Option Addr) (len cap : Nat) (w : World) (h : Ints .i64 w a len cap (nl xs)) (hlen : len = n * n) (F1 : mfault n n (nl xs) = 0) (RK : rank n n (fm (mo n xs)) = n) :
    Calls Tryd.prog 7 #[mxv n n a len cap] w fun e w' => ∃ g X, e = .returned (.agg #[.int .i64 0, .int .i64 n, .int .i64 n, .slice (some ⟨g, 0, none⟩) len len]) ∧ w.heap.size ≤ g ∧ Wr .i64 w' g 0 (nl X) ∧ X.length = len ∧ Sm n n (mo n X) ∧ IsInv n (fm (mo n xs)) (fm (mo n X)) ∧ IsInv n (fm (mo n X)) (fm (mo n xs)) ∧ Below w.heap.size w w' := by
  have hqb : n * n ≤ 64 * 64 := Nat.mul_le_mul hn hn
  have hl2 : len ≤ 4096 := by omega
  have HL := hid hlen
  have HS := hid hs
  have HH := hid h
  have G1 := hid F1
  have KR := hid RK
  have d0 : ((n : Int) != (n : Int)) = false := by simp
  have q2b : n * (2 * n) ≤ 64 * 128 := Nat.mul_le_mul hn (by omega)
  obtain ⟨q, hq⟩ : ∃ q, q = n * (2 * n) := ⟨_, rfl⟩
  have HQ := hid hq
  have q2c : q ≤ 8192 := by omega
  obtain ⟨N, hN⟩ : ∃ N, N = 2 * n := ⟨_, rfl⟩
  have HQI : Hid ((n : Int) * (N : Int) = (q : Int)) := by show _ = _; rw [hq, hN]; simp
  have eN : (2 : Int) * (n : Int) = (N : Int) := by rw [hN]; simp
  have HN := hid hN
  have hN3 : N ≤ 128 := by omega
  have dk : decide (rank n n (fm (mo n xs)) < n) = false := by simp; omega
  clear hlen hs h F1 RK hqb hq q2b hN
  go_enter Tryd.func7, Tryd.ntmps7
  go_wp2_with fail
  refine (sfault n n a len cap (nl xs) _ ((HH.out.alloc _).alloc _) (by omega)).mono ?_
  rintro e w1 ⟨rfl, rfl⟩
  rw [G1.out]
  clear G1
  go_wp2_with fail
  go_region_held3 (fun wx => wx.cell? ⟨w.heap.size, 0, none⟩ = some (.int .i64 n) ∧ wx.cell? ⟨w.heap.size, 1, none⟩ = some (.int .i64 n) ∧ wx.cell? ⟨w.heap.size, 2, none⟩ = some (.slice a len cap)) ((first | (go_keep; done) | exact ⟨rB.cell 0, rB.cell 1, rB.cell 2⟩)) ((go_at_call 26; refine (srank n n hn1 hn hn1 (by omega) xs HS.out a len cap _ ?_ HL.out).mono ?_; exact (((HH.out.alloc _).alloc _).alloc _).below (Below.refl _ _).drew; rintro e w2 ⟨rfl, hb2⟩; have rB := ((((RowAt.new w 25 #[.int .i64 n, .int .i64 n, .slice a len cap]).alloc _).alloc _).drew).below hb2 (by show w.heap.size < (((w.alloc _).alloc _).alloc _).heap.size; simp only [size_al]; omega)))
  have rR : RowAt w2 (w.heap.size + 1) 28 #[.int .i64 0, .int .i64 0, .int .i64 0, .slice none 0 0] := (((RowAt.next (w.alloc _) _ _ (by rw [size_al])).alloc _).drew).below hb2 (by show w.heap.size + 1 < (((w.alloc _).alloc _).alloc _).heap.size; simp only [size_al]; omega)
  have hbel : Below w.heap.size w w2 := ((((Below.refl _ _).alloc (Nat.le_refl _) _).alloc (by simp only [size_al]; omega) _).alloc (by simp only [size_al]; omega) _).drew.trans (hb2.mono (by show w.heap.size ≤ (((w.alloc _).alloc _).alloc _).heap.size; simp only [size_al]; omega))
  have hml : w.heap.size + 1 + 1 ≤ w2.heap.size := rR.lt
  have c0 := rB.cell 0
  clear hb2
  have RB := hid rB
  have RR := hid rR
  have HB := hid hbel
  clear rB rR hbel
  go_wp2_with fail
  refine (snew n N q _ HQI.out (by omega)).mono ?_
  rintro e w3 ⟨rfl, rfl⟩
  have S0 : Hid (InvSt w (((w2.alloc (.cells #[.int .i64 n, .int .i64 N, .slice (some ⟨w2.heap.size + 1, 0, none⟩) q q] 25)).alloc (.cells (ints .i64 (List.replicate q 0)) 2)).alloc (.cells #[.int .i64 n, .int .i64 N, .slice (some ⟨w2.heap.size + 1, 0, none⟩) q q] 25)) n N w2.heap.size q a len cap (List.replicate q 0)) := by
    refine ⟨((RB.out.alloc _).alloc _).alloc _, ((RR.out.alloc _).alloc _).alloc _, RowAt.next _ _ _ (by simp only [size_al]), ?_, List.length_replicate, by omega, ((HB.out.alloc (by omega) _).alloc (by simp only [size_al]; omega) _).alloc (by simp only [size_al]; omega) _⟩
    rw [nl_zeros]; exact (Wr.of (RowAt.next _ _ _ (by simp only [size_al]))).alloc _
  clear c0 dk
  go_wp2
  go_loopw [5] (fun y wr => ∃ (I : Nat) (zs : List Nat), I ≤ n ∧ y = .int .i64 I ∧ InvSt w wr n N w2.heap.size q a len cap zs ∧ (∀ i j, i < n → j < N → mo N zs i j = if i < I then augN n (mo n xs) i j else 0)) (fun y _ => n - (intOf y).toNat)
  case atStart =>
    refine ⟨0, List.replicate q 0, Nat.zero_le _, rfl, S0.out, fun i j hi hj => ?_⟩
    rw [if_neg (by omega)]
    show (List.replicate q 0).getD _ 0 = 0
    rw [List.getD_eq_getElem?_getD, List.getElem?_replicate]; split <;> rfl
  case round =>
    obtain ⟨I, zs, hI, rfl, st, zf⟩ := hrel
    have ST := hid st
    have ZF := hid zf
    clear st zf S0
    by_cases hlt : I < n
    · have hlt' : (I : Int) < (n : Int) := by omega
      obtain ⟨qi, hqi⟩ : ∃ qi, qi = I * N := ⟨_, rfl⟩
      obtain ⟨I2, hI2⟩ : ∃ I2, I2 = I * 2 := ⟨_, rfl⟩
      have e3 : (I : Int) * 2 = (I2 : Int) := by rw [hI2]; simp
      have e4 : (I2 : Int) * (n : Int) = (qi : Int) := by rw [hqi, hI2, HN.out, ← Nat.mul_assoc]; simp
      have HQ2 := hid hqi
      have BI : Hid (∀ j, j < N → qi + j < q) := fun j hj => by have e1 := HQ.out; have e2 := HN.out; rw [hqi, e1, ← e2]; exact mul_pos_lt hlt hj
      have bI := BI.out (N - 1) (by omega)
      clear hqi
      have hI2l : I2 ≤ 128 := by omega
      clear hI2
      have V1 : IntKind.i64.wrap (I2 : Int) = (I2 : Int) := wrap_small _ (by omega) (by omega)
      have V2 : IntKind.i64.wrap (qi : Int) = (qi : Int) := wrap_small _ (by omega) (by omega)
      go_wp2
      go_loopw [6] (fun y wr => ∃ (J : Nat) (zs : List Nat), J ≤ n ∧ y = .int .i64 J ∧ InvSt w wr n N w2.heap.size q a len cap zs ∧ (∀ i j, i < n → j < N → mo N zs i j = if i < I then augN n (mo n xs) i j else if i = I ∧ j < J then mo n xs I j else 0)) (fun y _ => n - (intOf y).toNat)
      case atStart =>
        refine ⟨0, zs, Nat.zero_le _, rfl, ST.out, fun i j hi hj => ?_⟩
        rw [ZF.out i j hi hj]
        by_cases e : i < I
        · rw [if_pos e, if_pos e]
        · rw [if_neg e, if_neg e, if_neg (show ¬ (i = I ∧ j < 0) by omega)]
      case round =>
        obtain ⟨J, zs, hJ, rfl, st, zf⟩ := hrel
        have SJ := hid st
        have FJ := hid zf
        clear st zf
        by_cases hjl : J < n
        · have hjl' : (J : Int) < (n : Int) := by omega
          have hJN : J < N := by have := HN.out; omega
          have bi := BI.out J hJN
          obtain ⟨qa, hqa⟩ : ∃ qa, qa = I * n := ⟨_, rfl⟩
          have QA : Hid ((I : Int) * (n : Int) = (qa : Int)) := by show _ = _; rw [hqa]; simp
          have ba : qa + J < len := by rw [hqa, HL.out]; exact mul_pos_lt hlt hjl
          obtain ⟨X, hX⟩ : ∃ X, xs.getD (qa + J) 0 = X := ⟨_, rfl⟩
          have EX : Hid (X = mo n xs I J) := by show _ = xs.getD (I * n + J) 0; rw [← hqa]; exact hX.symm
          have HX := hid hX
          clear hqa hX
          have V3 : IntKind.i64.wrap ((qi : Int) + (J : Int)) = (qi : Int) + (J : Int) := wrap_small _ (by omega) (by omega)
          have i1 : ((qi : Int) + (J : Int)) < (q : Int) := by omega
          have i0 : (0 : Int) ≤ (qi : Int) + (J : Int) := by omega
          have e9 : ((qi : Int) + (J : Int)).toNat = qi + J := by omega
          have c0 := SJ.out.B0.cell 0
          have c1 := SJ.out.B0.cell 1
          have c2 := SJ.out.B0.cell 2
          have m2 := SJ.out.M0.cell 2
          have f2 := SJ.out.Z.free (qi + J)
          have z2 := SJ.out.at bi
          have l0 := SJ.out.B0.lt
          have l1 := SJ.out.M0.lt
          have lg : w2.heap.size + 1 < wr.heap.size := SJ.out.Z.lt
          have IA := hid (HH.out.below SJ.out.bel)
          have SN := hid (((SJ.out.set (qi + J) X bi).alloc (.cells #[.int .i64 n, .int .i64 n, .slice a len cap] 25)).drew)
          have FN : Hid (∀ i j, i < n → j < N → mo N (zs.set (qi + J) X) i j = if i < I then augN n (mo n xs) i j else if i = I ∧ j < J + 1 then mo n xs I j else 0) := fun i j hi hj => by
            rw [HQ2.out, mo_set (by rw [SJ.out.len, ← HQ2.out]; exact bi) hJN hj, FJ.out i j hi hj]
            by_cases e1 : i = I ∧ j = J
            · obtain ⟨rfl, rfl⟩ := e1
              rw [if_pos ⟨rfl, rfl⟩, if_neg (show ¬ i < i by omega), if_pos (show i = i ∧ j < j + 1 by omega)]; exact EX.out
            · rw [if_neg e1]
              by_cases e2 : i < I
              · rw [if_pos e2, if_pos e2]
              · rw [if_neg e2, if_neg e2]
                by_cases e3 : i = I ∧ j < J
                · rw [if_pos e3, if_pos (show i = I ∧ j < J + 1 by omega)]
                · rw [if_neg e3, if_neg (show ¬ (i = I ∧ j < J + 1) by omega)]
          go_wp2_with fail
          go_region_held3 (fun wx => wx.cell? ⟨w.heap.size, 0, none⟩ = some (.int .i64 n) ∧ wx.cell? ⟨w.heap.size, 1, none⟩ = some (.int .i64 n) ∧ wx.cell? ⟨w.heap.size, 2, none⟩ = some (.slice a len cap) ∧ wx.cell? ⟨w2.heap.size + 1 + 1, 2, none⟩ = some (.slice (some ⟨w2.heap.size + 1, 0, none⟩) q q)) ((first | (go_keep; done) | exact ⟨SN.out.B0.cell 0, SN.out.B0.cell 1, SN.out.B0.cell 2, SN.out.M0.cell 2⟩)) ((go_at_call 28; refine (satn n n I J qa X a len cap xs _ ?_ QA ba (by omega) HX).mono ?_; exact IA.out.below (Below.refl _ _).drew; rintro e w4 ⟨rfl, rfl⟩))
          all_goals go_wp2
          all_goals
            go_roundw
            case rel => exact ⟨J + 1, zs.set (qi + J) X, by omega, by go_num, SN.out, FN.out⟩
            case measure => simp [intOf]; omega
        · have hJe : n = J := by omega
          subst hJe
          have hnN : n + I < N := by have := HN.out; omega
          have bi := BI.out (n + I) hnN
          have i1 : ((qi : Int) + (n : Int) + (I : Int)) < (q : Int) := by omega
          have i0 : (0 : Int) ≤ (qi : Int) + (n : Int) + (I : Int) := by omega
          have e9 : ((qi : Int) + (n : Int) + (I : Int)).toNat = qi + n + I := by omega
          have m2 := SJ.out.M0.cell 2
          have f2 := SJ.out.Z.free (qi + n + I)
          have bi' : qi + n + I < q := by omega
          have z2 := SJ.out.at bi'
          have SN := hid (SJ.out.set (qi + n + I) 1 bi')
          have FN : Hid (∀ i j, i < n → j < N → mo N (zs.set (qi + n + I) 1) i j = if i < I + 1 then augN n (mo n xs) i j else 0) := fun i j hi hj => by
            rw [HQ2.out, Nat.add_assoc, mo_set (by rw [SJ.out.len, ← HQ2.out]; exact bi) hnN hj, FJ.out i j hi hj]
            by_cases e1 : i = I ∧ j = n + I
            · obtain ⟨rfl, rfl⟩ := e1
              rw [if_pos ⟨rfl, rfl⟩, if_pos (show i < i + 1 by omega)]
              unfold augN
              rw [if_neg (by omega), if_pos (by omega)]
            · rw [if_neg e1]
              by_cases e2 : i < I
              · rw [if_pos e2, if_pos (show i < I + 1 by omega)]
              · rw [if_neg e2]
                by_cases e3 : i = I
                · subst e3
                  rw [if_pos (show i < i + 1 by omega)]
                  unfold augN
                  by_cases e4 : j < n
                  · rw [if_pos ⟨rfl, e4⟩, if_pos e4]
                  · rw [if_neg (fun h => e4 h.2), if_neg e4, if_neg (by omega)]
                · rw [if_neg (fun h => e3 h.1), if_neg (show ¬ i < I + 1 by omega)]
          go_wp2
          go_roundw
          case rel => exact ⟨I + 1, zs.set (qi + n + I) 1, by omega, by go_num, SN.out, FN.out⟩
          case measure => simp [intOf]; omega
    · have hIe : n = I := by omega
      subst hIe
      have AU : Hid (∀ i j, i < n → j < N → mo N zs i j = augN n (mo n xs) i j) := fun i j hi hj => by rw [ZF.out i j hi hj, if_pos hi]
      have NN : Hid (N = n + n) := by have := HN.out; show N = n + n; omega
      have ND : Hid (∀ c, c < n → ¬ Dep n N (aug n (fm (mo n xs))) c) := fun c hc hd => by
        rw [NN.out] at hd
        exact cntP_full.1 (show cntP (fun c => ¬ Dep n n (fm (mo n xs)) c) n = n from KR.out) c hc ((aug_dep hc).1 hd)
      have P0 : Hid (Sm n N (mo N zs) ∧ KerEq n N (aug n (fm (mo n xs))) (fm (mo N zs))) := ⟨aug_sm HS.out AU.out, KerEq.of fun i j hi hj => (fm_aug (AU.out i j hi hj)).symm⟩
      clear ZF AU
      go_wp2
      go_loopw [7] (fun y wr => ∃ (col : Nat) (zs : List Nat), col ≤ n ∧ y = .int .i64 col ∧ InvSt w wr n N w2.heap.size q a len cap zs ∧ Sm n N (mo N zs) ∧ KerEq n N (aug n (fm (mo n xs))) (fm (mo N zs)) ∧ ∃ p : Nat → Nat, (∀ t, t < col → p t = t) ∧ Red n (fm (mo N zs)) col p col) (fun y _ => n - (intOf y).toNat)
      case atStart => exact ⟨0, zs, Nat.zero_le _, rfl, ST.out, P0.out.1, P0.out.2, fun t => t, fun _ _ => rfl, Red.start _ _ _⟩
      case round =>
        obtain ⟨col, zs, hcol, rfl, st, hsm, hke, hrd⟩ := hrel
        have SC := hid st
        have SM := hid hsm
        have KE := hid hke
        have RD := hid hrd
        clear st hsm hke hrd P0
        by_cases hcl : col < n
        · have hcl' : (col : Int) < (n : Int) := by omega
          have hcN : col < N := by have := NN.out; omega
          go_wp2
          go_loopw [8] (fun y wr => ∃ (T : Nat), col ≤ T ∧ T ≤ n ∧ y = .int .i64 T ∧ InvSt w wr n N w2.heap.size q a len cap zs ∧ (∀ i, col ≤ i → i < T → mo N zs i col = 0)) (fun y _ => n - (intOf y).toNat)
          case atStart => exact ⟨col, Nat.le_refl _, by omega, rfl, SC.out, fun i h1 h2 => absurd h2 (by omega)⟩
          case round =>
            obtain ⟨T, hT1, hT2, rfl, st, hz⟩ := hrel
            have S2 := hid st
            have HZ := hid hz
            clear st hz
            have hTn : T < n := by
              rcases Nat.lt_or_ge T n with h1 | h1
              · exact h1
              · obtain ⟨p, _, hr⟩ := RD.out
                have ⟨_, h2⟩ := elim_none SM.out KE.out hr hcN (fun i a b => HZ.out i a (by omega))
                exact absurd h2 (ND.out col hcl)
            obtain ⟨qt, hqt⟩ : ∃ qt, qt = T * N := ⟨_, rfl⟩
            have QT : Hid ((T : Int) * (N : Int) = (qt : Int)) := by show _ = _; rw [hqt]; simp
            have bt : qt + col < q := by have e1 := HQ.out; have e2 := HN.out; rw [hqt, e1, ← e2]; exact mul_pos_lt hTn hcN
            obtain ⟨X, hX⟩ : ∃ X, zs.getD (qt + col) 0 = X := ⟨_, rfl⟩
            have EX : Hid (X = mo N zs T col) := by show _ = zs.getD (T * N + col) 0; rw [← hqt]; exact hX.symm
            have HX := hid hX
            clear hqt hX
            have m0 := S2.out.M0.cell 0
            have m1 := S2.out.M0.cell 1
            have m2 := S2.out.M0.cell 2
            by_cases hx0 : X = 0
            · have dz : ((X : Int) == 0) = true := by simp; omega
              go_wp2_with fail
              refine (satn n N T col qt X (some ⟨w2.heap.size + 1, 0, none⟩) q q zs _ S2.out.ints QT bt (by omega) HX).mono ?_
              rintro e w4 ⟨rfl, rfl⟩
              go_wp2
              go_roundw
              case rel =>
                refine ⟨T + 1, by omega, by omega, by go_num, S2.out.alloc _, fun i h1 h2 => ?_⟩
                by_cases e : i = T
                · subst e; rw [← EX.out]; exact hx0
                · exact HZ.out i h1 (by omega)
              case measure => simp [intOf]; omega
            · have dz : ((X : Int) == 0) = false := by simp; omega
              have SQ : Hid (q = n * N) := by have e1 := HQ.out; have e2 := HN.out; show q = n * N; rw [e1, e2]
              go_wp2_with fail
              refine (satn n N T col qt X (some ⟨w2.heap.size + 1, 0, none⟩) q q zs _ S2.out.ints QT bt (by omega) HX).mono ?_
              rintro e w4 ⟨rfl, rfl⟩
              have S3 := hid (S2.out.alloc (.cells #[.int .i64 n, .int .i64 N, .slice (some ⟨w2.heap.size + 1, 0, none⟩) q q] 25))
              clear m0 m1 m2
              have m0 := S3.out.M0.cell 0
              have m1 := S3.out.M0.cell 1
              have m2 := S3.out.M0.cell 2
              go_wp2_with fail
              refine (sswap n N col T q q (w2.heap.size + 1) (Nat.le_refl _) zs _ hn hN3 hcl hTn SQ.out S3.out.Z S3.out.len).mono ?_
              rintro e w5 ⟨rfl, ⟨ys, yz, yl, yf⟩, yg⟩
              have S4 := hid (S3.out.grown yg yz yl)
              have YF := hid yf
              have YS : Hid (Sm n N (mo N ys)) := sm_congr' (swp_sm SM.out hcl hTn) yf
              clear yz yl yf yg m0 m1 m2
              have m0 := S4.out.M0.cell 0
              have m1 := S4.out.M0.cell 1
              have m2 := S4.out.M0.cell 2
              go_wp2_with fail
              refine (sclear n N col col q q (w2.heap.size + 1) (Nat.le_refl _) ys _ hn hN3 hcl hcN SQ.out S4.out.Z S4.out.len YS.out).mono ?_
              rintro e w6 ⟨rfl, ⟨vs, vz, vl, vf⟩, vg⟩
              have S5 := hid (S4.out.grown vg vz vl)
              have NX : Hid (Sm n N (mo N vs) ∧ KerEq n N (aug n (fm (mo n xs))) (fm (mo N vs)) ∧ ∃ p : Nat → Nat, (∀ t, t < col + 1 → p t = t) ∧ Red n (fm (mo N vs)) (col + 1) p (col + 1)) := by
                obtain ⟨p, hp, hr⟩ := RD.out
                have ⟨h1, h2, h3, _⟩ := elim_step SM.out KE.out hr hcN hT1 hTn (by rw [← EX.out]; exact hx0) YF.out vf
                refine ⟨h1, h2, _, fun t ht => ?_, h3⟩
                show (if t = col then col else p t) = t
                by_cases e : t = col
                · rw [if_pos e, e]
                · rw [if_neg e]; exact hp t (by omega)
              clear vz vl vf vg m0 m1 m2
              go_wp2
              go_roundw
              case rel => exact ⟨col + 1, vs, by omega, by go_num, S5.out, NX.out.1, NX.out.2.1, NX.out.2.2⟩
              case measure => simp [intOf]; omega
        · have hce : n = col := by omega
          subst hce
          have HNN : Hid ((n : Int) * (n : Int) = (len : Int)) := by show _ = _; rw [HL.out]; simp
          have UN : Hid (∀ i j, i < n → j < n → fm (mo N zs) i j = if i = j then 1 else 0) := fun i j hi hj => by
            obtain ⟨p, hp, hr⟩ := RD.out
            have := hr.unit i j hi hj
            rw [hp j hj] at this; exact this
          have IV : Hid (IsInv n (fm (mo n xs)) (fun i j => fm (mo N zs) i (n + j)) ∧ IsInv n (fun i j => fm (mo N zs) i (n + j)) (fm (mo n xs))) := by
            have k := KE.out
            rw [NN.out] at k ⊢
            exact aug_inv k (by rw [NN.out] at UN; exact UN.out)
          go_wp2_with fail
          refine (snew n n len _ HNN.out (by omega)).mono ?_
          rintro e w7 ⟨rfl, rfl⟩
          obtain ⟨wx, rfl⟩ : ∃ wx, wx = wr := ⟨_, rfl⟩
          have O1 : Hid (OutSt w wx (((wx.alloc (.cells #[.int .i64 n, .int .i64 n, .slice (some ⟨wx.heap.size + 1, 0, none⟩) len len] 25)).alloc (.cells (ints .i64 (List.replicate len 0)) 2)).alloc (.cells #[.int .i64 n, .int .i64 n, .slice (some ⟨wx.heap.size + 1, 0, none⟩) len len] 25)) n N w2.heap.size q len zs (List.replicate len 0)) := by
            refine ⟨((SC.out.R0.alloc _).alloc _).alloc _, ((SC.out.M0.alloc _).alloc _).alloc _, ((SC.out.ints.alloc _).alloc _).alloc _, RowAt.next _ _ _ (by simp only [size_al]), ?_, List.length_replicate, SC.out.R0.lt, SC.out.M0.lt, ((SC.out.bel.alloc SC.out.bel.size _).alloc (by have := SC.out.bel.size; simp only [size_al]; omega) _).alloc (by have := SC.out.bel.size; simp only [size_al]; omega) _⟩
            rw [nl_zeros]; exact (Wr.of (RowAt.next _ _ _ (by simp only [size_al]))).alloc _
          go_wp2
          go_loopw [10] (fun y wr => ∃ (I : Nat) (os : List Nat), I ≤ n ∧ y = .int .i64 I ∧ OutSt w wx wr n N w2.heap.size q len zs os ∧ (∀ i j, i < n → j < n → i < I → mo n os i j = mo N zs i (n + j))) (fun y _ => n - (intOf y).toNat)
          case atStart => exact ⟨0, List.replicate len 0, Nat.zero_le _, rfl, O1.out, fun i j _ _ h => absurd h (Nat.not_lt_zero _)⟩
          case round =>
            obtain ⟨I, os, hI, rfl, st, zf⟩ := hrel
            have SO := hid st
            have FO := hid zf
            clear st zf O1
            by_cases hlt : I < n
            · have hlt' : (I : Int) < (n : Int) := by omega
              go_wp2
              go_loopw [11] (fun y wr => ∃ (J : Nat) (os : List Nat), J ≤ n ∧ y = .int .i64 J ∧ OutSt w wx wr n N w2.heap.size q len zs os ∧ (∀ i j, i < n → j < n → (i < I ∨ (i = I ∧ j < J)) → mo n os i j = mo N zs i (n + j))) (fun y _ => n - (intOf y).toNat)
              case atStart => exact ⟨0, os, Nat.zero_le _, rfl, SO.out, fun i j hi hj h => FO.out i j hi hj (by omega)⟩
              case round =>
                obtain ⟨J, os, hJ, rfl, st, zf⟩ := hrel
                have SJ := hid st
                have FJ := hid zf
                clear st zf
                by_cases hjl : J < n
                · have hjl' : (J : Int) < (n : Int) := by omega
                  obtain ⟨qo, hqo⟩ : ∃ qo, qo = I * n := ⟨_, rfl⟩
                  have e3 : (I : Int) * (n : Int) = (qo : Int) := by rw [hqo]; simp
                  have bo : qo + J < len := by rw [hqo, HL.out]; exact mul_pos_lt hlt hjl
                  have HQO := hid hqo
                  obtain ⟨qt, hqt⟩ : ∃ qt, qt = I * N := ⟨_, rfl⟩
                  have QT : Hid ((I : Int) * (N : Int) = (qt : Int)) := by show _ = _; rw [hqt]; simp
                  have hnJ : n + J < N := by have := NN.out; omega
                  have bt : qt + (n + J) < q := by have e1 := HQ.out; have e2 := HN.out; rw [hqt, e1, ← e2]; exact mul_pos_lt hlt hnJ
                  obtain ⟨X, hX⟩ : ∃ X, zs.getD (qt + (n + J)) 0 = X := ⟨_, rfl⟩
                  have EX : Hid (X = mo N zs I (n + J)) := by show _ = zs.getD (I * N + (n + J)) 0; rw [← hqt]; exact hX.symm
                  have HX := hid hX
                  clear hqo hqt hX
                  have W0 : IntKind.i64.wrap (qo : Int) = (qo : Int) := wrap_small _ (by omega) (by omega)
                  have W1 : IntKind.i64.wrap ((qo : Int) + (J : Int)) = (qo : Int) + (J : Int) := wrap_small _ (by omega) (by omega)
                  have W2 : Hid (IntKind.i64.wrap ((n : Int) + (J : Int)) = ((n + J : Nat) : Int)) := by show _ = _; rw [wrap_small _ (by omega) (by omega)]; simp
                  have i1 : ((qo : Int) + (J : Int)) < (len : Int) := by omega
                  have i0 : (0 : Int) ≤ (qo : Int) + (J : Int) := by omega
                  have e9 : ((qo : Int) + (J : Int)).toNat = qo + J := by omega
                  have m0 := SJ.out.M0.cell 0
                  have m1 := SJ.out.M0.cell 1
                  have m2 := SJ.out.M0.cell 2
                  have o2 := SJ.out.O0.cell 2
                  have f2 := SJ.out.ZO.free (qo + J)
                  have z2 := SJ.out.at bo
                  have k0 := SJ.out.M0.lt
                  have k1 := SJ.out.O0.lt
                  have lg : wx.heap.size + 1 < wr.heap.size := SJ.out.ZO.lt
                  have SN := hid (((SJ.out.set (qo + J) X bo).alloc (.cells #[.int .i64 n, .int .i64 N, .slice (some ⟨w2.heap.size + 1, 0, none⟩) q q] 25)).drew)
                  have FN : Hid (∀ i j, i < n → j < n → (i < I ∨ (i = I ∧ j < J + 1)) → mo n (os.set (qo + J) X) i j = mo N zs i (n + j)) := fun i j hi hj h => by
                    rw [HQO.out, mo_set (by rw [SJ.out.len, ← HQO.out]; exact bo) hjl hj]
                    by_cases e1 : i = I ∧ j = J
                    · rw [if_pos e1, e1.1, e1.2]; exact EX.out
                    · rw [if_neg e1]; exact FJ.out i j hi hj (by omega)
                  go_wp2_with fail
                  go_region_held3 (fun wy => wy.cell? ⟨w2.heap.size + 1 + 1, 0, none⟩ = some (.int .i64 n) ∧ wy.cell? ⟨w2.heap.size + 1 + 1, 1, none⟩ = some (.int .i64 N) ∧ wy.cell? ⟨w2.heap.size + 1 + 1, 2, none⟩ = some (.slice (some ⟨w2.heap.size + 1, 0, none⟩) q q) ∧ wy.cell? ⟨wx.heap.size + 1 + 1, 2, none⟩ = some (.slice (some ⟨wx.heap.size + 1, 0, none⟩) len len)) ((first | (go_keep; done) | exact ⟨SN.out.M0.cell 0, SN.out.M0.cell 1, SN.out.M0.cell 2, SN.out.O0.cell 2⟩)) ((go_at_call 28; refine (satx n N I (n + J) qt X _ W2.out (some ⟨w2.heap.size + 1, 0, none⟩) q q zs _ ?_ QT bt (by omega) HX).mono ?_; exact SJ.out.drew.Z; rintro e w4 ⟨rfl, rfl⟩))
                  all_goals go_wp2
                  all_goals
                    go_roundw
                    case rel => exact ⟨J + 1, os.set (qo + J) X, by omega, by go_num, SN.out, FN.out⟩
                    case measure => simp [intOf]; omega
                · have hJe : n = J := by omega
                  subst hJe
                  go_wp2
                  go_roundw
                  case rel => exact ⟨I + 1, os, by omega, by go_num, SJ.out, fun i j hi hj h => FJ.out i j hi hj (by omega)⟩
                  case measure => simp [intOf]; omega
            · have hIe : n = I := by omega
              subst hIe
              have EO : Hid (∀ i j, i < n → j < n → mo n os i j = mo N zs i (n + j)) := fun i j hi hj => FO.out i j hi hj hi
              have m0 := SO.out.O0.cell 0
              have m1 := SO.out.O0.cell 1
              have m2 := SO.out.O0.cell 2
              go_wp2_with (refine wpList_store_row rfl 28 (.tmp 2) (.tmp 118) rfl (w.heap.size + 1) #[.int .i64 0, .int .i64 n, .int .i64 n, .slice (some ⟨wx.heap.size + 1, 0, none⟩) len len] rfl rfl _ _ SO.out.R0 (by kernel_rfl) rfl (one4 _ _ _ _ _ _) ?_)
              have hl1 := SO.out.l1
              refine bodyPost_ret (v := .agg #[.int .i64 0, .int .i64 n, .int .i64 n, .slice (some ⟨wx.heap.size + 1, 0, none⟩) len len]) ?_ rfl ⟨wx.heap.size + 1, os, rfl, by omega, ?_, SO.out.len, ?_, ?_, ?_, ?_⟩
              · exact results_cell_row Tryd.results7 _ _ (w.heap.size + 1) _ _ _ _ rfl (SO.out.R0.setRow _) Tryd.underlying28 rfl (by kernel_rfl)
              · exact wr_setRow SO.out.ZO _ (by omega)
              · exact fun i j hi hj => by rw [EO.out i j hi hj]; exact SM.out i (n + j) hi (by have := NN.out; omega)
              · exact IV.out.1.congr (fun _ _ _ _ => rfl) (fun i j hi hj => fm_congr' (EO.out i j hi hj))
              · exact IV.out.2.congr (fun i j hi hj => fm_congr' (EO.out i j hi hj)) (fun _ _ _ _ => rfl)
              · exact below_setRow SO.out.bel _ _ (by omega)
end Go.Proofs.YtlobnmcjnaibaaaDoorR
