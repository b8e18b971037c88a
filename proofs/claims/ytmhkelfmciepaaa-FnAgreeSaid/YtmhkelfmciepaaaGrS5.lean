import Derived.Test.YtmhkelfmciepaaaGrS4
namespace Go.Proofs.Ytmhkelfmciepaaa
open Go.RowKit
set_option linter.unusedVariables false
/-! The specification's l15Elect (by gengr.py). -/
abbrev gv (o : Gou) : Value := .agg #[.int .i64 o.cd, .int .i64 o.vo, .int .i64 o.cm]
theorem SpL.aside {w : World} {B b N : Nat} {s : Gst} {la : Nat → Option Addr} {lc mb : Nat → Nat} (h : SpL w B b N s la lc mb) {X : Nat} {t : TypeId} {cs : Array Value} (hX : RowAt w X t cs) (t1 : 36 ≠ t) (t2 : 46 ≠ t) (t3 : 2 ≠ t) (c' : Array Value) : SpL (w.setRow X c') B b N s la lc mb := by
  refine h.rows fun g t' ds hr ho => hr.otherRow _ _ ?_
  rcases ho with rfl | rfl | ⟨k, hk, rfl⟩
  · obtain ⟨c2, h2, _⟩ := h.row
    exact row_apart h2 hX t1
  · exact row_apart hr hX t2
  · exact row_apart (h.mat k hk).1 hX t3
theorem own_ints {w : World} {H : Nat} {v : Value} {xs : List Int} (h : OwnNums w H 2 .i64 v xs) : ∃ a c, v = .slice a xs.length c ∧ Ints .i64 w a xs.length c xs := by
  rcases h.2 with ⟨h0, h1⟩ | ⟨g, cap, cur, he, hb, hr, hnc, hm, hsz, htk⟩
  · exact ⟨none, 0, by rw [h0, h1], rfl, by omega, .inl h1⟩
  · have R : RowAt w g 2 cur := hr
    refine ⟨_, cap, he, rfl, hnc, .inr ⟨g, 0, rfl, R.lt, fun i hi => ?_⟩⟩
    have := congrArg (·[i]?) htk
    simp only [List.getElem?_take] at this
    rw [if_pos (by omega)] at this
    rw [Nat.zero_add, R.cell i, ← Array.getElem?_toList, this, List.getElem?_map, List.getElem?_eq_getElem hi, List.getD_eq_getElem?_getD, List.getElem?_eq_getElem hi]
    rfl
def TB (m : Mb) : Prop := 0 ≤ m.tm ∧ m.tm ≤ 1000001 ∧ m.lg.length ≤ 500
theorem TB.late {c m : Mb} (hc : TB c) (hm : TB m) : TB (gLate c m) := by
  unfold gLate
  split
  · exact ⟨hc.1, hc.2.1, hm.2.2⟩
  · exact hm
theorem TB.vote {c m : Mb} {k : Nat} (hc : TB c) (hm : TB m) : TB (gVote c k m) := by
  have h := hc.late hm
  unfold gVote
  split
  · exact h
  · exact h
theorem asked_at {N : Nat} {A : Nat → Bool} {aL : List Int} (h : ∀ j : Nat, j < N → A j = decide ((j : Int) ∈ aL)) (q : Nat) : ∀ j : Nat, j < N → gAsked A q j = decide ((j : Int) ∈ aL ++ [(q : Int)]) := by
  intro j hj
  unfold gAsked
  rw [h j hj]
  by_cases e : j = q
  · simp [e]
  · have : ¬ (j : Int) = q := by omega
    simp [e, this]
set_option maxRecDepth 20000 in
set_option maxHeartbeats 8000000 in
theorem sElect (w0 : World) (b N k : Nat) (hN : N ≤ 9) (hk : k < N) (s : Gst) (hT : ∀ j, j < N → 0 ≤ (s j).tm ∧ (s j).tm ≤ 1000000 ∧ (s j).lg.length ≤ 500) (kd dt : Int) (pa : Option Addr) (pc : Nat) (pe : List Int) (tx : ByteArray) (hpl : pe.length ≤ 1048576) (hp : Ints .i64 w0 pa pe.length pc pe) (w : World) (h : SpAt w w0.heap.size b N s) (hb : Below w0.heap.size w0 w) :
    Calls Try.prog 25 #[.slice (some ⟨b, 0, none⟩) N N, .agg #[.int .i64 kd, .int .i64 (k : Int), .int .i64 dt, .slice pa pe.length pc, .string tx]] w fun e w' => e = .returned (gv (gElect N s k pe).2) ∧ SpAt w' w0.heap.size b N (gElect N s k pe).1 ∧ Below w0.heap.size w0 w' ∧ Kp w w' := by
  obtain ⟨la, lc, mb, h⟩ := h
  have hBb := h.hB
  have hbl := h.row.lt
  have hH : Hid (∀ j, j < N → mb j < w.heap.size) := fun j hj => (h.mat j hj).1.lt
  have HP := hid hp
  have HT := hid hT
  obtain ⟨G1, hG1⟩ : ∃ G, G = (gElect N s k pe).1 := ⟨_, rfl⟩
  obtain ⟨G2, hG2⟩ : ∃ G, G = (gElect N s k pe).2 := ⟨_, rfl⟩
  rw [← hG1, ← hG2]
  have HG1 := hid hG1
  have HG2 := hid hG2
  clear hG1 hG2
  obtain ⟨X3, hX3⟩ : ∃ X, X = w.heap.size := ⟨_, rfl⟩
  have hw0 := hb.size
  have hwX : Hid (w.heap.size ≤ X3) := by rw [hX3]; exact Nat.le_refl _
  obtain ⟨W1, hW1⟩ : ∃ W, W = (w.alloc (.cells #[.int .i64 kd, .int .i64 (k : Int), .int .i64 dt, .slice pa pe.length pc, .string tx] 42)).alloc (.cells #[.int .i64 0, .int .i64 0, .int .i64 0] 34) := ⟨_, rfl⟩
  have b1 : Below w.heap.size w W1 := by rw [hW1]; exact ((Below.refl _ _).alloc (Nat.le_refl _) _).alloc (by simp) _
  obtain ⟨OVv, hOV⟩ : ∃ o : Array Value, o = #[.int .i64 kd, .int .i64 (k : Int), .int .i64 dt, .slice pa pe.length pc, .string tx] := ⟨_, rfl⟩
  have HOV := hid hOV
  have P1 : Hid (RowAt W1 X3 42 OVv) := by rw [hW1, hX3, hOV]; exact (RowAt.new _ _ _).alloc _
  have R1 : Hid (RowAt W1 (X3 + 1) 34 #[.int .i64 0, .int .i64 0, .int .i64 0]) := by rw [hW1, hX3]; exact RowAt.next _ _ _ (by simp only [size_al])
  have V1 : Hid (Kp w W1) := (Kp.refl w).below b1
  have S1 := hid (h.below b1)
  have B1 := hid (hb.trans (b1.mono hb.size))
  have sz1 : Hid (W1.heap.size = X3 + 2) := by rw [hW1, hX3]; show _ = _; simp only [size_al]
  have HW1 := hid hW1
  have HX3 := hid hX3
  have lX3 : b < X3 := by omega
  have HBX : Hid (w0.heap.size ≤ X3) := by rw [hX3]; exact hw0
  have hH3 : Hid (∀ j, j < N → mb j < X3) := by rw [hX3]; exact hH.out
  have kN : (k : Int) < (N : Int) := by omega
  have k0 : (0 : Int) ≤ (k : Int) := by omega
  clear hOV hW1 b1 hX3 h hb hp hT hbl hH
  go_enter Try.func25, Try.ntmps25
  go_upto_region 1 with fail
  rw [← HW1.out, ← HX3.out]
  clear HW1 HX3
  have p3 : W1.cell? ⟨X3, 3, none⟩ = some (.slice pa pe.length pc) := by rw [P1.out.cell, HOV.out]; rfl
  go_wp2_with fail
  go_loopw [5] (fun y wr => ∃ (i : Nat), i ≤ pe.length ∧ y = .int .i64 (i : Int) ∧ (∀ j, j < i → 0 ≤ pe.getD j 0 ∧ pe.getD j 0 < N) ∧ wr = W1) (fun y _ => pe.length - (intOf y).toNat)
  case atStart => exact ⟨0, Nat.zero_le _, rfl, fun j hj => absurd hj (by omega), rfl⟩
  case round =>
    obtain ⟨i, hi, rfl, hall, hwr⟩ := hrel
    obtain rfl := hwr.symm
    have HA := hid hall
    clear hall hwr
    by_cases hlt : i < pe.length
    · have hlt' : (i : Int) < (pe.length : Int) := by omega
      have i0 : (0 : Int) ≤ (i : Int) := by omega
      rcases HP.out.2.2 with h00 | ⟨g, off, hpa, hgl, hc⟩
      · omega
      subst hpa
      have c0 : W1.cell? ⟨g, off + i, none⟩ = some (.int .i64 (pe.getD i 0)) := (B1.out.cell (p := ⟨g, off + i, none⟩) hgl).trans (hc i hlt)
      clear hc
      obtain ⟨x, hx⟩ : ∃ x, x = pe.getD i 0 := ⟨_, rfl⟩
      rw [← hx] at c0
      have HXI := hid hx
      clear hx
      by_cases ha : x < 0
      · have HR : Hid (G1 = s ∧ G2 = ⟨1, 0, 0⟩) := by
          have q : gElect N s k pe = (s, ⟨1, 0, 0⟩) := by unfold gElect; rw [gIn_not hlt (by rw [← HXI.out]; omega)]; rfl
          rw [HG1.out, HG2.out, q]
          exact ⟨rfl, rfl⟩
        go_upto_region 5 with fail
        go_wp2_with (refine wpList_store_row rfl 34 (.tmp 4) (.tmp 34) rfl (X3 + 1) #[.int .i64 1, .int .i64 0, .int .i64 0] rfl rfl _ _ R1.out (by kernel_rfl) rfl (by simp [Value.oneCell']) ?_)
        try simp only [Exit.inBlock, Exit.then]
        refine bodyPost_ret (v := .agg #[.int .i64 1, .int .i64 0, .int .i64 0]) ?_ rfl ⟨by rw [HR.out.2], ⟨la, lc, mb, by rw [HR.out.1]; exact S1.out.aside R1.out (by decide) (by decide) (by decide) _⟩, below_setRow B1.out _ _ (by have := HBX.out; omega), V1.out.setRow (Nat.le_trans hwX.out (Nat.le_add_right _ _)) _⟩
        exact results_cell_row Try.results25 _ _ (X3 + 1) _ _ _ _ rfl (R1.out.setRow _) Try.underlying34 rfl (by kernel_rfl)
      · by_cases hb' : x < (N : Int)
        · have hb2 : ¬ (N : Int) ≤ x := by omega
          have N1 : Hid (∀ j, j < i + 1 → 0 ≤ pe.getD j 0 ∧ pe.getD j 0 < N) := fun j hj => by
            by_cases q : j = i
            · rw [q, ← HXI.out]; omega
            · exact HA.out j (by omega)
          go_wp2
          go_roundw
          case rel => exact ⟨i + 1, hlt, by go_num, N1.out, trivial⟩
          case measure => simp [intOf]; omega
        · have hb2 : (N : Int) ≤ x := by omega
          have HR : Hid (G1 = s ∧ G2 = ⟨1, 0, 0⟩) := by
            have q : gElect N s k pe = (s, ⟨1, 0, 0⟩) := by unfold gElect; rw [gIn_not hlt (by rw [← HXI.out]; omega)]; rfl
            rw [HG1.out, HG2.out, q]
            exact ⟨rfl, rfl⟩
          go_upto_region 5 with fail
          go_wp2_with (refine wpList_store_row rfl 34 (.tmp 4) (.tmp 34) rfl (X3 + 1) #[.int .i64 1, .int .i64 0, .int .i64 0] rfl rfl _ _ R1.out (by kernel_rfl) rfl (by simp [Value.oneCell']) ?_)
          try simp only [Exit.inBlock, Exit.then]
          refine bodyPost_ret (v := .agg #[.int .i64 1, .int .i64 0, .int .i64 0]) ?_ rfl ⟨by rw [HR.out.2], ⟨la, lc, mb, by rw [HR.out.1]; exact S1.out.aside R1.out (by decide) (by decide) (by decide) _⟩, below_setRow B1.out _ _ (by have := HBX.out; omega), V1.out.setRow (Nat.le_trans hwX.out (Nat.le_add_right _ _)) _⟩
          exact results_cell_row Try.results25 _ _ (X3 + 1) _ _ _ _ rfl (R1.out.setRow _) Try.underlying34 rfl (by kernel_rfl)
    · have hlt' : ¬ (i : Int) < (pe.length : Int) := by omega
      have HE : Hid (pe.all (gIn N) = true) := gIn_all fun j hj => HA.out j (by omega)
      clear HA hi
      obtain ⟨TK, hTK⟩ : ∃ T, T = (s k).tm := ⟨_, rfl⟩
      obtain ⟨tk0, tk1, lk⟩ := HT.out k hk
      rw [← hTK] at tk0 tk1
      have HTK := hid hTK
      clear hTK
      have p1 : W1.cell? ⟨X3, 1, none⟩ = some (.int .i64 (k : Int)) := by rw [P1.out.cell, HOV.out]; rfl
      go_upto_region 7 with fail
      clear p1 p3
      obtain ⟨W2, hW2⟩ : ∃ W, W = W1.setCell ⟨b, k * 6, none⟩ (.int .i64 (TK + 1)) := ⟨_, rfl⟩
      have S2 : Hid (SpL W2 w0.heap.size b N (putM s k { s k with tm := TK + 1 }) la lc mb) := by
        rw [hW2]
        exact S1.out.setTm k (TK + 1)
      have P2 : Hid (RowAt W2 X3 42 OVv) := by rw [hW2]; exact P1.out.other _ _ (by simp; omega)
      have R2 : Hid (RowAt W2 (X3 + 1) 34 #[.int .i64 0, .int .i64 0, .int .i64 0]) := by rw [hW2]; exact R1.out.other _ _ (by simp; omega)
      have V2 : Hid (Kp w W2) := by rw [hW2]; exact S1.out.keep V1.out _ _
      have B2 : Hid (Below w0.heap.size w0 W2) := by rw [hW2]; exact B1.out.setCell hBb _
      have sz2 : Hid (W2.heap.size = W1.heap.size) := by rw [hW2]; show _ = _; simp [World.setCell]
      have y1 := (S1.out.cells hk).1.trans (by rw [← HTK.out])
      have f1 := S1.out.row.free (k * 6)
      have HW2 := hid hW2
      clear hW2
      go_upto_region 8 with fail
      rw [← HW2.out]
      clear HW2 y1 f1 P1 R1 V1 B1 S1 
      obtain ⟨W3, hW3⟩ : ∃ W, W = W2.setCell ⟨b, k * 6 + 1, none⟩ (.int .i64 (k : Int)) := ⟨_, rfl⟩
      have S3 : Hid (SpL W3 w0.heap.size b N (putM s k { s k with tm := TK + 1, vt := k }) la lc mb) := by
        rw [hW3]
        have q := S2.out.setVt k k
        rw [putM_self, putM_putM] at q
        exact q
      have P3 : Hid (RowAt W3 X3 42 OVv) := by rw [hW3]; exact P2.out.other _ _ (by simp; omega)
      have R3 : Hid (RowAt W3 (X3 + 1) 34 #[.int .i64 0, .int .i64 0, .int .i64 0]) := by rw [hW3]; exact R2.out.other _ _ (by simp; omega)
      have V3 : Hid (Kp w W3) := by rw [hW3]; exact S2.out.keep V2.out _ _
      have B3 : Hid (Below w0.heap.size w0 W3) := by rw [hW3]; exact B2.out.setCell hBb _
      have sz3 : Hid (W3.heap.size = W2.heap.size) := by rw [hW3]; show _ = _; simp [World.setCell]
      have y2 := (S2.out.cells hk).2.1
      have f2 := S2.out.row.free (k * 6 + 1)
      have HW3 := hid hW3
      clear hW3
      go_upto_region 9 with fail
      rw [← HW3.out]
      clear HW3 y2 f2 P2 R2 V2 B2 S2 
      obtain ⟨W4, hW4⟩ : ∃ W, W = W3.setCell ⟨b, k * 6 + 2, none⟩ (.bool false) := ⟨_, rfl⟩
      have S4 : Hid (SpL W4 w0.heap.size b N (gStart s k) la lc mb) := by
        rw [hW4]
        have q := S3.out.setLd k false
        rw [putM_self, putM_putM] at q
        unfold gStart
        rw [← HTK.out]
        exact q
      have P4 : Hid (RowAt W4 X3 42 OVv) := by rw [hW4]; exact P3.out.other _ _ (by simp; omega)
      have R4 : Hid (RowAt W4 (X3 + 1) 34 #[.int .i64 0, .int .i64 0, .int .i64 0]) := by rw [hW4]; exact R3.out.other _ _ (by simp; omega)
      have V4 : Hid (Kp w W4) := by rw [hW4]; exact S3.out.keep V3.out _ _
      have B4 : Hid (Below w0.heap.size w0 W4) := by rw [hW4]; exact B3.out.setCell hBb _
      have sz4 : Hid (W4.heap.size = W3.heap.size) := by rw [hW4]; show _ = _; simp [World.setCell]
      have y3 := (S3.out.cells hk).2.2.1
      have f3 := S3.out.row.free (k * 6 + 2)
      have HW4 := hid hW4
      clear hW4
      go_upto_region 10 with fail
      rw [← HW4.out]
      clear HW4 y3 f3 P3 R3 V3 B3 S3 
      obtain ⟨X8, hX8⟩ : ∃ X, X = W4.heap.size := ⟨_, rfl⟩
      have e8 : X8 = X3 + 2 := by rw [hX8, sz4.out, sz3.out, sz2.out, sz1.out]
      obtain ⟨W5, hW5⟩ : ∃ W, W = W4.alloc (.cells #[.int .i64 (k : Int)] 2) := ⟨_, rfl⟩
      have b5 : Below W4.heap.size W4 W5 := by rw [hW5]; exact (Below.refl _ _).alloc (Nat.le_refl _) _
      have O5 : Hid (OwnNums W5 (X3 + 2) 2 .i64 (.slice (some ⟨X8, 0, none⟩) 1 1) [(k : Int)]) := by rw [hW5, hX8]; exact ⟨rfl, .inr ⟨W4.heap.size, 1, #[.int .i64 (k : Int)], rfl, by rw [← hX8, e8]; exact Nat.le_refl _, RowAt.new W4 _ _, Nat.le_refl _, by decide, rfl, rfl⟩⟩
      have S5 := hid (S4.out.below b5)
      have P5 := hid (P4.out.below b5 P4.out.lt)
      have R5 := hid (R4.out.below b5 R4.out.lt)
      have V5 := hid (V4.out.below b5)
      have B5 := hid (B4.out.trans (b5.mono B4.out.size))
      have Z5 : Hid (X3 + 2 ≤ W5.heap.size) := by rw [hW5, size_al, ← hX8, e8]; show _ ≤ _; omega
      have HW5 := hid hW5
      have HX8 := hid hX8
      clear hW5 hX8 b5 S4 P4 R4 V4 B4 e8
      go_upto_region 12 with fail
      rw [← HW5.out, ← HX8.out]
      clear HW5 HX8
      have TS : Hid (∀ j, j < N → TB (gStart s k j)) := fun j hj => by
        obtain ⟨q1, q2, q3⟩ := HT.out j hj
        unfold gStart putM
        split
        · exact ⟨by show 0 ≤ (s k).tm + 1; rw [← HTK.out]; omega, by show (s k).tm + 1 ≤ _; rw [← HTK.out]; omega, lk⟩
        · exact ⟨q1, by omega, q3⟩
      obtain ⟨RG, hRG⟩ : ∃ R, R = gGath k pe (fun j => decide (j = k)) (gStart s k) 1 := ⟨_, rfl⟩
      have HRG := hid hRG
      clear hRG
      have p3 : W5.cell? ⟨X3, 3, none⟩ = some (.slice pa pe.length pc) := by rw [P5.out.cell, HOV.out]; rfl
      go_wp2_with fail
      clear p3
      go_loopw [7, 8, 9, 10] (fun y7 y8 y9 y10 wr => ∃ (i v : Nat) (A : Nat → Bool) (st : Gst) (aL : List Int), i ≤ pe.length ∧ y9 = .int .i64 (i : Int) ∧ y7 = .int .i64 (v : Int) ∧ OwnNums wr (X3 + 2) 2 .i64 y8 aL ∧ aL.length ≤ i + 1 ∧ (∀ j : Nat, j < N → A j = decide ((j : Int) ∈ aL)) ∧ gGath k (pe.drop i) A st v = RG ∧ st k = gStart s k k ∧ A k = true ∧ v ≤ i + 1 ∧ (∀ j, j < N → TB (st j)) ∧ SpL wr w0.heap.size b N st la lc mb ∧ RowAt wr X3 42 OVv ∧ RowAt wr (X3 + 1) 34 #[.int .i64 0, .int .i64 0, .int .i64 0] ∧ Kp w wr ∧ Below w0.heap.size w0 wr ∧ X3 + 2 ≤ wr.heap.size) (fun _ _ y9 _ _ => pe.length - (intOf y9).toNat)
      case atStart => exact ⟨0, 1, fun j => decide (j = k), gStart s k, [(k : Int)], Nat.zero_le _, rfl, rfl, O5.out, Nat.le_refl _, fun j _ => by simp [Int.ofNat_inj], HRG.out.symm, rfl, by simp, Nat.le_refl _, TS.out, S5.out, P5.out, R5.out, V5.out, B5.out, Z5.out⟩
      case round =>
        obtain ⟨i, v, A, st, aL, hi2, rfl, rfl, hO, haL, hA, hg, hst, hAk, hv, hTB, hS, hP, hR, hV, hB, hZ⟩ := hrel
        obtain ⟨aa, ac, hsl, hin⟩ := own_ints hO
        subst hsl
        have S0 := hid hS
        have P0 := hid hP
        have R0 := hid hR
        have V0 := hid hV
        have B0 := hid hB
        have O0 := hid hO
        have HA := hid hA
        have HG := hid hg
        have HST := hid hst
        have HAK := hid hAk
        have HTB := hid hTB
        have HIN := hid hin
        obtain ⟨W0, hW0⟩ : ∃ W, W = wr := ⟨_, rfl⟩
        clear hS hP hR hV hB hO hA hg hst hAk hTB hin S5 P5 R5 V5 B5 O5 TS
        rw [← hW0] at S0 P0 R0 V0 B0 O0 HIN hZ ⊢
        clear hW0
        have p3 : W0.cell? ⟨X3, 3, none⟩ = some (.slice pa pe.length pc) := by rw [P0.out.cell, HOV.out]; rfl
        by_cases hlt : i < pe.length
        · have hlt' : (i : Int) < (pe.length : Int) := by omega
          have i0 : (0 : Int) ≤ (i : Int) := by omega
          rcases HP.out.2.2 with h00 | ⟨g, off, hpa, hgl, hc⟩
          · omega
          subst hpa
          have c0 : W0.cell? ⟨g, off + i, none⟩ = some (.int .i64 (pe.getD i 0)) := (B0.out.cell (p := ⟨g, off + i, none⟩) hgl).trans (hc i hlt)
          clear hc
          obtain ⟨q1, q2⟩ := gIn_at HE.out hlt
          obtain ⟨q, hq⟩ := Int.eq_ofNat_of_zero_le q1
          have hqn : (pe.getD i 0).toNat = q := by rw [hq]; rfl
          rw [hq] at c0 q2
          have qN : q < N := by omega
          have GD := hid (drop_at hlt)
          have HQ := hid hq
          have HQN := hid hqn
          clear q1 hq hqn
          have KI := hid (sInI8 aa aL.length ac aL (q : Int) (by omega) W0 HIN.out)
          have aq := HA.out q qN
          cases hAq : A q with
          | true =>
            rw [hAq] at aq
            rw [← aq] at KI
            have GN : Hid (gGath k (pe.drop (i + 1)) A st v = RG) := hid (by rw [← HG.out, GD.out, gGath_in _ _ _ _ _ _ (by rw [HQN.out]; exact hAq)])
            clear aq hAq GD
            go_wp2_with fail
            refine KI.out.mono ?_
            rintro e w2 ⟨rfl, hw⟩
            obtain rfl := hw.symm
            clear hw KI
            go_wp2
            go_roundw
            case rel => exact ⟨i + 1, v, A, st, aL, hlt, by go_num, rfl, O0.out, by omega, HA.out, GN.out, HST.out, HAK.out, by omega, HTB.out, S0.out, P0.out, R0.out, V0.out, B0.out, hZ⟩
            case measure => simp [intOf]; omega
          | false =>
            rw [hAq] at aq
            rw [← aq] at KI
            have qk : q ≠ k := fun e => by rw [e, HAK.out] at hAq; cases hAq
            have GN : Hid (gGath k (pe.drop (i + 1)) (gAsked A q) (putM st q (gVote (st k) k (st q))) (v + (gWill (st k) k (gLate (st k) (st q))).toNat) = RG) := hid (by rw [← HG.out, GD.out, gGath_out _ _ _ _ _ _ (by rw [HQN.out]; exact hAq), HQN.out])
            have HA2 := hid (asked_at HA.out q)
            have HAK2 : Hid (gAsked A q k = true) := by unfold gAsked; rw [HAK.out, Bool.or_true]; exact rfl
            clear aq hAq GD HA HAK
            go_wp2_with fail
            refine KI.out.mono ?_
            rintro e w2 ⟨rfl, hw⟩
            obtain rfl := hw.symm
            clear hw KI
            go_upto_region 17 with fail
            clear p3 c0
            go_wp2_with ((at_builtin; refine append_num2 (X3 + 2) W0 rfl (.tmp 73) (.tmp 75) 27 rfl 2 .i64 8 Try.underlying27 Try.info64 (by decide) _ aL (q : Int) rfl O0.out hZ rfl (by omega) ?_; intro v8 u1 hO1 hg1))
            have S9 := hid (S0.out.own O0.out (fun j hj => by have := hH3.out j hj; omega) hg1)
            have ne3 : ∀ X, X < X3 + 2 → some X ≠ (Value.slice aa aL.length ac).ownBlock := fun X hX e => by have := (World.ownsRow.lt O0.out X e.symm).1; omega
            have P9 : Hid (RowAt u1 X3 42 OVv) := (hg1.block X3 P0.out.lt (ne3 _ (by omega))).trans P0.out
            have R9 : Hid (RowAt u1 (X3 + 1) 34 #[.int .i64 0, .int .i64 0, .int .i64 0]) := (hg1.block (X3 + 1) R0.out.lt (ne3 _ (by omega))).trans R0.out
            have V9 : Hid (Kp w u1) := V0.out.grown hg1 fun g hg => .inl (Nat.le_trans hwX.out (Nat.le_trans (Nat.le_add_right _ _) (World.ownsRow.lt O0.out g hg).1))
            have B9 := hid (below_own B0.out O0.out (by have := HBX.out; omega) hg1 (by have := HBX.out; omega))
            have O9 := hid hO1
            have Z9 : Hid (X3 + 2 ≤ u1.heap.size) := Nat.le_trans hZ hg1.size
            clear hg1 hO1 ne3 hZ S0 P0 R0 V0 B0 O0 HIN
            obtain ⟨W9, hW9⟩ : ∃ W, W = u1 := ⟨_, rfl⟩
            rw [← hW9] at S9 P9 R9 V9 B9 O9 Z9 ⊢
            clear hW9
            obtain ⟨TQ, hTQ⟩ : ∃ T, T = (st q).tm := ⟨_, rfl⟩
            obtain ⟨TC, hTC⟩ : ∃ T, T = (st k).tm := ⟨_, rfl⟩
            have cq0 := (S9.out.cells qN).1
            have ck0 := (S9.out.cells hk).1
            rw [← hTQ] at cq0
            rw [← hTC] at ck0
            have HTQ := hid hTQ
            have HTC := hid hTC
            have HST2 : Hid ((putM st q (gVote (st k) k (st q))) k = gStart s k k) := hid (by rw [putM_ne _ _ _ (Ne.symm qk)]; exact HST.out)
            have HTB2 : Hid (∀ j, j < N → TB ((putM st q (gVote (st k) k (st q))) j)) := fun j hj => by
              by_cases e : j = q
              · rw [e, putM_self]; exact (HTB.out k hk).vote (HTB.out q qN)
              · rw [putM_ne _ _ _ e]; exact HTB.out j hj
            have q0 : (0 : Int) ≤ (q : Int) := by omega
            clear hTQ hTC
            go_wp2_with fail
            by_cases hlate : TQ < TC
            · have ML : Hid (gLate (st k) (st q) = { st q with tm := TC, vt := -1, ld := false }) := hid (by unfold gLate; rw [← HTC.out, if_pos (by rw [← HTQ.out]; exact hlate)])
              go_quiet (fail)
              obtain ⟨W10, hW10⟩ : ∃ W, W = W9.drewN nq := ⟨_, rfl⟩
              have S10 : Hid (SpL W10 w0.heap.size b N st la lc mb) := by rw [hW10]; exact S9.out.below (below_drewN' (Below.refl _ _) nq)
              have P10 : Hid (RowAt W10 X3 42 OVv) := by rw [hW10]; exact P9.out
              have R10 : Hid (RowAt W10 (X3 + 1) 34 #[.int .i64 0, .int .i64 0, .int .i64 0]) := by rw [hW10]; exact R9.out
              have V10 : Hid (Kp w W10) := by rw [hW10]; exact ⟨V9.out.size, V9.out.row⟩
              have B10 : Hid (Below w0.heap.size w0 W10) := by rw [hW10]; exact below_drewN' B9.out nq
              have O10 : Hid (OwnNums W10 (X3 + 2) 2 .i64 v8 (aL ++ [(q : Int)])) := by rw [hW10]; exact O9.out
              have Z10 : Hid (X3 + 2 ≤ W10.heap.size) := by rw [hW10]; exact Z9.out
              rw [← hW10]
              clear hW10 S9 P9 R9 V9 B9 O9 Z9 nq
              go_upto_region 19 with fail
              clear cq0 ck0
              have ck0 := (S10.out.cells hk).1.trans (by rw [← HTC.out])
              obtain ⟨W11, hW11⟩ : ∃ W, W = W10.setCell ⟨b, q * 6, none⟩ (.int .i64 TC) := ⟨_, rfl⟩
              have S11 : Hid (SpL W11 w0.heap.size b N (putM st q { st q with tm := TC }) la lc mb) := by
                rw [hW11]
                exact S10.out.setTm q TC
              have P11 : Hid (RowAt W11 X3 42 OVv) := by rw [hW11]; exact P10.out.other _ _ (by simp; omega)
              have R11 : Hid (RowAt W11 (X3 + 1) 34 #[.int .i64 0, .int .i64 0, .int .i64 0]) := by rw [hW11]; exact R10.out.other _ _ (by simp; omega)
              have V11 : Hid (Kp w W11) := by rw [hW11]; exact S10.out.keep V10.out _ _
              have O11 : Hid (OwnNums W11 (X3 + 2) 2 .i64 v8 (aL ++ [(q : Int)])) := by rw [hW11]; exact O10.out.kept grown_set (by omega)
              have Z11 : Hid (X3 + 2 ≤ W11.heap.size) := by rw [hW11]; show _ ≤ _; simp [World.setCell]; exact Z10.out
              have B11 : Hid (Below w0.heap.size w0 W11) := by rw [hW11]; exact B10.out.setCell hBb _
              have sz11 : Hid (W11.heap.size = W10.heap.size) := by rw [hW11]; show _ = _; simp [World.setCell]
              have y10 := (S10.out.cells qN).1
              have f10 := S10.out.row.free (q * 6)
              have HW11 := hid hW11
              clear hW11
              go_upto_region 20 with fail
              rw [← HW11.out]
              clear HW11 y10 f10 P10 R10 V10 B10 S10 O10 Z10 sz11
              clear ck0
              obtain ⟨W12, hW12⟩ : ∃ W, W = W11.setCell ⟨b, q * 6 + 1, none⟩ (.int .i64 (-1)) := ⟨_, rfl⟩
              have S12 : Hid (SpL W12 w0.heap.size b N (putM st q { st q with tm := TC, vt := -1 }) la lc mb) := by
                rw [hW12]
                have z := S11.out.setVt q (-1)
                rw [putM_self, putM_putM] at z
                exact z
              have P12 : Hid (RowAt W12 X3 42 OVv) := by rw [hW12]; exact P11.out.other _ _ (by simp; omega)
              have R12 : Hid (RowAt W12 (X3 + 1) 34 #[.int .i64 0, .int .i64 0, .int .i64 0]) := by rw [hW12]; exact R11.out.other _ _ (by simp; omega)
              have V12 : Hid (Kp w W12) := by rw [hW12]; exact S11.out.keep V11.out _ _
              have O12 : Hid (OwnNums W12 (X3 + 2) 2 .i64 v8 (aL ++ [(q : Int)])) := by rw [hW12]; exact O11.out.kept grown_set (by omega)
              have Z12 : Hid (X3 + 2 ≤ W12.heap.size) := by rw [hW12]; show _ ≤ _; simp [World.setCell]; exact Z11.out
              have B12 : Hid (Below w0.heap.size w0 W12) := by rw [hW12]; exact B11.out.setCell hBb _
              have sz12 : Hid (W12.heap.size = W11.heap.size) := by rw [hW12]; show _ = _; simp [World.setCell]
              have y11 := (S11.out.cells qN).2.1
              have f11 := S11.out.row.free (q * 6 + 1)
              have HW12 := hid hW12
              clear hW12
              go_upto_region 21 with fail
              rw [← HW12.out]
              clear HW12 y11 f11 P11 R11 V11 B11 S11 O11 Z11 sz12
              obtain ⟨W13, hW13⟩ : ∃ W, W = W12.setCell ⟨b, q * 6 + 2, none⟩ (.bool false) := ⟨_, rfl⟩
              have S13 : Hid (SpL W13 w0.heap.size b N (putM st q { st q with tm := TC, vt := -1, ld := false }) la lc mb) := by
                rw [hW13]
                have z := S12.out.setLd q false
                rw [putM_self, putM_putM] at z
                exact z
              have P13 : Hid (RowAt W13 X3 42 OVv) := by rw [hW13]; exact P12.out.other _ _ (by simp; omega)
              have R13 : Hid (RowAt W13 (X3 + 1) 34 #[.int .i64 0, .int .i64 0, .int .i64 0]) := by rw [hW13]; exact R12.out.other _ _ (by simp; omega)
              have V13 : Hid (Kp w W13) := by rw [hW13]; exact S12.out.keep V12.out _ _
              have O13 : Hid (OwnNums W13 (X3 + 2) 2 .i64 v8 (aL ++ [(q : Int)])) := by rw [hW13]; exact O12.out.kept grown_set (by omega)
              have Z13 : Hid (X3 + 2 ≤ W13.heap.size) := by rw [hW13]; show _ ≤ _; simp [World.setCell]; exact Z12.out
              have B13 : Hid (Below w0.heap.size w0 W13) := by rw [hW13]; exact B12.out.setCell hBb _
              have sz13 : Hid (W13.heap.size = W12.heap.size) := by rw [hW13]; show _ = _; simp [World.setCell]
              have y12 := (S12.out.cells qN).2.2.1
              have f12 := S12.out.row.free (q * 6 + 2)
              have HW13 := hid hW13
              clear hW13
              go_upto_region 22 with fail
              rw [← HW13.out]
              clear HW13 y12 f12 P12 R12 V12 B12 S12 O12 Z12 sz13
              have zq := S13.out.cells qN
              have zk := S13.out.cells hk
              rw [putM_self] at zq
              rw [putM_ne _ _ _ (Ne.symm qk)] at zk
              dsimp only at zq
              have lq := S13.out.log q qN
              have lk := S13.out.log k hk
              rw [putM_self] at lq
              rw [putM_ne _ _ _ (Ne.symm qk)] at lk
              dsimp only at lq
              obtain ⟨cq0, cq1, _, _, cq4, _⟩ := zq
              obtain ⟨ck0, _, _, _, ck4, _⟩ := zk
              rw [← HTC.out] at ck0
              have KN := fun x => hid (sNewer (la q) (lc q) (st q).lg (la k) (lc k) (st k).lg (by have := (HTB.out q qN).2.2; omega) (by have := (HTB.out k hk).2.2; omega) (W13.drewN x) (lq.ges.below (below_drewN' (Below.refl _ _) x)) (lk.ges.below (below_drewN' (Below.refl _ _) x)))
              obtain ⟨NB, hNB⟩ : ∃ n, n = gNewer (st q).lg (st k).lg := ⟨_, rfl⟩
              rw [← hNB] at KN
              have HNB := hid hNB
              generalize (st q).lg.length = lnq at cq4 KN
              generalize (st k).lg.length = lnk at ck4 KN
              generalize la q = aq at cq4 KN
              generalize lc q = cq at cq4 KN
              generalize la k = ak at ck4 KN
              generalize lc k = ck at ck4 KN
              clear hNB lq lk
              cases NB with
              | true =>
                have EW : Hid (gWill (st k) k (gLate (st k) (st q)) = false) := hid (by rw [ML.out]; unfold gWill; rw [← HNB.out]; simp [← HTC.out])
                have EV : Hid (gVote (st k) k (st q) = gLate (st k) (st q)) := hid (by unfold gVote; rw [EW.out]; rfl)
                have GN2 : Hid (gGath k (pe.drop (i + 1)) (gAsked A q) (putM st q (gVote (st k) k (st q))) v = RG) := hid (by have z := GN.out; rw [EW.out] at z; exact z)
                clear GN EW
                go_quiet ((go_at_call 10; exact Calls.quiet_of_same (KN _).out))
                obtain ⟨W14, hW14⟩ : ∃ W, W = W13.drewN nq := ⟨_, rfl⟩
                have S14 : Hid (SpL W14 w0.heap.size b N (putM st q { st q with tm := TC, vt := -1, ld := false }) la lc mb) := by rw [hW14]; exact S13.out.below (below_drewN' (Below.refl _ _) nq)
                have P14 : Hid (RowAt W14 X3 42 OVv) := by rw [hW14]; exact P13.out
                have R14 : Hid (RowAt W14 (X3 + 1) 34 #[.int .i64 0, .int .i64 0, .int .i64 0]) := by rw [hW14]; exact R13.out
                have V14 : Hid (Kp w W14) := by rw [hW14]; exact ⟨V13.out.size, V13.out.row⟩
                have B14 : Hid (Below w0.heap.size w0 W14) := by rw [hW14]; exact below_drewN' B13.out nq
                have O14 : Hid (OwnNums W14 (X3 + 2) 2 .i64 v8 (aL ++ [(q : Int)])) := by rw [hW14]; exact O13.out
                have Z14 : Hid (X3 + 2 ≤ W14.heap.size) := by rw [hW14]; exact Z13.out
                rw [← hW14]
                clear hW14 S13 P13 R13 V13 B13 O13 Z13 nq
                have S15 : Hid (SpL W14 w0.heap.size b N (putM st q (gVote (st k) k (st q))) la lc mb) := by rw [EV.out, ML.out]; exact S14.out
                go_wp2
                go_roundw
                case rel => exact ⟨i + 1, v, gAsked A q, (putM st q (gVote (st k) k (st q))), aL ++ [(q : Int)], hlt, by go_num, rfl, O14.out, by simp; omega, HA2.out, GN2.out, HST2.out, HAK2.out, by omega, HTB2.out, S15.out, P14.out, R14.out, V14.out, B14.out, Z14.out⟩
                case measure => simp [intOf]; omega
              | false =>
                have EW : Hid (gWill (st k) k (gLate (st k) (st q)) = true) := hid (by rw [ML.out]; unfold gWill; rw [← HNB.out]; simp [← HTC.out])
                have EV : Hid (gVote (st k) k (st q) = { gLate (st k) (st q) with vt := (k : Int) }) := hid (by unfold gVote; rw [EW.out]; rfl)
                have GN2 : Hid (gGath k (pe.drop (i + 1)) (gAsked A q) (putM st q (gVote (st k) k (st q))) (v + 1) = RG) := hid (by have z := GN.out; rw [EW.out] at z; exact z)
                clear GN EW
                go_quiet ((go_at_call 10; exact Calls.quiet_of_same (KN _).out))
                obtain ⟨W14, hW14⟩ : ∃ W, W = W13.drewN nq := ⟨_, rfl⟩
                have S14 : Hid (SpL W14 w0.heap.size b N (putM st q { st q with tm := TC, vt := -1, ld := false }) la lc mb) := by rw [hW14]; exact S13.out.below (below_drewN' (Below.refl _ _) nq)
                have P14 : Hid (RowAt W14 X3 42 OVv) := by rw [hW14]; exact P13.out
                have R14 : Hid (RowAt W14 (X3 + 1) 34 #[.int .i64 0, .int .i64 0, .int .i64 0]) := by rw [hW14]; exact R13.out
                have V14 : Hid (Kp w W14) := by rw [hW14]; exact ⟨V13.out.size, V13.out.row⟩
                have B14 : Hid (Below w0.heap.size w0 W14) := by rw [hW14]; exact below_drewN' B13.out nq
                have O14 : Hid (OwnNums W14 (X3 + 2) 2 .i64 v8 (aL ++ [(q : Int)])) := by rw [hW14]; exact O13.out
                have Z14 : Hid (X3 + 2 ≤ W14.heap.size) := by rw [hW14]; exact Z13.out
                rw [← hW14]
                clear hW14 S13 P13 R13 V13 B13 O13 Z13 nq
                obtain ⟨W15, hW15⟩ : ∃ W, W = W14.setCell ⟨b, q * 6 + 1, none⟩ (.int .i64 (k : Int)) := ⟨_, rfl⟩
                have S15 : Hid (SpL W15 w0.heap.size b N (putM st q (gVote (st k) k (st q))) la lc mb) := by
                  rw [hW15]
                  have z := S14.out.setVt q k
                  rw [putM_self, putM_putM] at z
                  rw [EV.out, ML.out]
                  exact z
                have P15 : Hid (RowAt W15 X3 42 OVv) := by rw [hW15]; exact P14.out.other _ _ (by simp; omega)
                have R15 : Hid (RowAt W15 (X3 + 1) 34 #[.int .i64 0, .int .i64 0, .int .i64 0]) := by rw [hW15]; exact R14.out.other _ _ (by simp; omega)
                have V15 : Hid (Kp w W15) := by rw [hW15]; exact S14.out.keep V14.out _ _
                have O15 : Hid (OwnNums W15 (X3 + 2) 2 .i64 v8 (aL ++ [(q : Int)])) := by rw [hW15]; exact O14.out.kept grown_set (by omega)
                have Z15 : Hid (X3 + 2 ≤ W15.heap.size) := by rw [hW15]; show _ ≤ _; simp [World.setCell]; exact Z14.out
                have B15 : Hid (Below w0.heap.size w0 W15) := by rw [hW15]; exact B14.out.setCell hBb _
                have sz15 : Hid (W15.heap.size = W14.heap.size) := by rw [hW15]; show _ = _; simp [World.setCell]
                have y14 := (S14.out.cells qN).2.1
                have f14 := S14.out.row.free (q * 6 + 1)
                have HW15 := hid hW15
                clear hW15
                go_upto_region 24 with fail
                rw [← HW15.out]
                clear HW15 y14 f14 P14 R14 V14 B14 S14 O14 Z14 sz15
                go_wp2
                go_roundw
                case rel => exact ⟨i + 1, (v + 1), gAsked A q, (putM st q (gVote (st k) k (st q))), aL ++ [(q : Int)], hlt, by go_num, by go_num, O15.out, by simp; omega, HA2.out, GN2.out, HST2.out, HAK2.out, by omega, HTB2.out, S15.out, P15.out, R15.out, V15.out, B15.out, Z15.out⟩
                case measure => simp [intOf]; omega
            · have ML : Hid (gLate (st k) (st q) = st q) := hid (by unfold gLate; rw [← HTC.out, if_neg (by rw [← HTQ.out]; exact hlate)])
              go_quiet (fail)
              obtain ⟨W10, hW10⟩ : ∃ W, W = W9.drewN nq := ⟨_, rfl⟩
              have S10 : Hid (SpL W10 w0.heap.size b N st la lc mb) := by rw [hW10]; exact S9.out.below (below_drewN' (Below.refl _ _) nq)
              have P10 : Hid (RowAt W10 X3 42 OVv) := by rw [hW10]; exact P9.out
              have R10 : Hid (RowAt W10 (X3 + 1) 34 #[.int .i64 0, .int .i64 0, .int .i64 0]) := by rw [hW10]; exact R9.out
              have V10 : Hid (Kp w W10) := by rw [hW10]; exact ⟨V9.out.size, V9.out.row⟩
              have B10 : Hid (Below w0.heap.size w0 W10) := by rw [hW10]; exact below_drewN' B9.out nq
              have O10 : Hid (OwnNums W10 (X3 + 2) 2 .i64 v8 (aL ++ [(q : Int)])) := by rw [hW10]; exact O9.out
              have Z10 : Hid (X3 + 2 ≤ W10.heap.size) := by rw [hW10]; exact Z9.out
              rw [← hW10]
              clear hW10 S9 P9 R9 V9 B9 O9 Z9 nq
              go_upto_region 22 with fail
              clear cq0 ck0
              have zq := S10.out.cells qN
              have zk := S10.out.cells hk
              have lq := S10.out.log q qN
              have lk := S10.out.log k hk
              obtain ⟨cq0, cq1, _, _, cq4, _⟩ := zq
              obtain ⟨ck0, _, _, _, ck4, _⟩ := zk
              rw [← HTC.out] at ck0
              rw [← HTQ.out] at cq0
              obtain ⟨VQ, hVQ⟩ : ∃ V, V = (st q).vt := ⟨_, rfl⟩
              rw [← hVQ] at cq1
              have HVQ := hid hVQ
              clear hVQ
              have KN := fun x => hid (sNewer (la q) (lc q) (st q).lg (la k) (lc k) (st k).lg (by have := (HTB.out q qN).2.2; omega) (by have := (HTB.out k hk).2.2; omega) (W10.drewN x) (lq.ges.below (below_drewN' (Below.refl _ _) x)) (lk.ges.below (below_drewN' (Below.refl _ _) x)))
              obtain ⟨NB, hNB⟩ : ∃ n, n = gNewer (st q).lg (st k).lg := ⟨_, rfl⟩
              rw [← hNB] at KN
              have HNB := hid hNB
              generalize (st q).lg.length = lnq at cq4 KN
              generalize (st k).lg.length = lnk at ck4 KN
              generalize la q = aq at cq4 KN
              generalize lc q = cq at cq4 KN
              generalize la k = ak at ck4 KN
              generalize lc k = ck at ck4 KN
              clear hNB lq lk
              by_cases ht : TQ = TC
              · have d1 : (TQ == TC) = true := by rw [beq_iff_eq]; exact ht
                have HTT := hid ht
                clear ht
                by_cases hv1 : VQ = -1
                · have d2 : (VQ == -1) = true := by rw [beq_iff_eq]; exact hv1
                  have HV1 := hid hv1
                  clear hv1
                  cases NB with
                  | true =>
                    have EW : Hid (gWill (st k) k (gLate (st k) (st q)) = false) := hid (by rw [ML.out]; unfold gWill; rw [← HNB.out, ← HTC.out, ← HTQ.out, ← HVQ.out]; simp [HTT.out, HV1.out])
                    have EV : Hid (gVote (st k) k (st q) = gLate (st k) (st q)) := hid (by unfold gVote; rw [EW.out]; rfl)
                    have GN2 : Hid (gGath k (pe.drop (i + 1)) (gAsked A q) (putM st q (gVote (st k) k (st q))) v = RG) := hid (by have z := GN.out; rw [EW.out] at z; exact z)
                    clear GN EW
                    go_quiet ((go_at_call 10; exact Calls.quiet_of_same (KN _).out))
                    obtain ⟨W11, hW11⟩ : ∃ W, W = W10.drewN nq := ⟨_, rfl⟩
                    have S11 : Hid (SpL W11 w0.heap.size b N st la lc mb) := by rw [hW11]; exact S10.out.below (below_drewN' (Below.refl _ _) nq)
                    have P11 : Hid (RowAt W11 X3 42 OVv) := by rw [hW11]; exact P10.out
                    have R11 : Hid (RowAt W11 (X3 + 1) 34 #[.int .i64 0, .int .i64 0, .int .i64 0]) := by rw [hW11]; exact R10.out
                    have V11 : Hid (Kp w W11) := by rw [hW11]; exact ⟨V10.out.size, V10.out.row⟩
                    have B11 : Hid (Below w0.heap.size w0 W11) := by rw [hW11]; exact below_drewN' B10.out nq
                    have O11 : Hid (OwnNums W11 (X3 + 2) 2 .i64 v8 (aL ++ [(q : Int)])) := by rw [hW11]; exact O10.out
                    have Z11 : Hid (X3 + 2 ≤ W11.heap.size) := by rw [hW11]; exact Z10.out
                    rw [← hW11]
                    clear hW11 S10 P10 R10 V10 B10 O10 Z10 nq
                    have S12 : Hid (SpL W11 w0.heap.size b N (putM st q (gVote (st k) k (st q))) la lc mb) := by rw [EV.out, ML.out, putM_same]; exact S11.out
                    go_wp2
                    go_roundw
                    case rel => exact ⟨i + 1, v, gAsked A q, (putM st q (gVote (st k) k (st q))), aL ++ [(q : Int)], hlt, by go_num, rfl, O11.out, by simp; omega, HA2.out, GN2.out, HST2.out, HAK2.out, by omega, HTB2.out, S12.out, P11.out, R11.out, V11.out, B11.out, Z11.out⟩
                    case measure => simp [intOf]; omega
                  | false =>
                    have EW : Hid (gWill (st k) k (gLate (st k) (st q)) = true) := hid (by rw [ML.out]; unfold gWill; rw [← HNB.out, ← HTC.out, ← HTQ.out, ← HVQ.out]; simp [HTT.out, HV1.out])
                    have EV : Hid (gVote (st k) k (st q) = { gLate (st k) (st q) with vt := (k : Int) }) := hid (by unfold gVote; rw [EW.out]; rfl)
                    have GN2 : Hid (gGath k (pe.drop (i + 1)) (gAsked A q) (putM st q (gVote (st k) k (st q))) (v + 1) = RG) := hid (by have z := GN.out; rw [EW.out] at z; exact z)
                    clear GN EW
                    go_quiet ((go_at_call 10; exact Calls.quiet_of_same (KN _).out))
                    obtain ⟨W11, hW11⟩ : ∃ W, W = W10.drewN nq := ⟨_, rfl⟩
                    have S11 : Hid (SpL W11 w0.heap.size b N st la lc mb) := by rw [hW11]; exact S10.out.below (below_drewN' (Below.refl _ _) nq)
                    have P11 : Hid (RowAt W11 X3 42 OVv) := by rw [hW11]; exact P10.out
                    have R11 : Hid (RowAt W11 (X3 + 1) 34 #[.int .i64 0, .int .i64 0, .int .i64 0]) := by rw [hW11]; exact R10.out
                    have V11 : Hid (Kp w W11) := by rw [hW11]; exact ⟨V10.out.size, V10.out.row⟩
                    have B11 : Hid (Below w0.heap.size w0 W11) := by rw [hW11]; exact below_drewN' B10.out nq
                    have O11 : Hid (OwnNums W11 (X3 + 2) 2 .i64 v8 (aL ++ [(q : Int)])) := by rw [hW11]; exact O10.out
                    have Z11 : Hid (X3 + 2 ≤ W11.heap.size) := by rw [hW11]; exact Z10.out
                    rw [← hW11]
                    clear hW11 S10 P10 R10 V10 B10 O10 Z10 nq
                    obtain ⟨W12, hW12⟩ : ∃ W, W = W11.setCell ⟨b, q * 6 + 1, none⟩ (.int .i64 (k : Int)) := ⟨_, rfl⟩
                    have S12 : Hid (SpL W12 w0.heap.size b N (putM st q (gVote (st k) k (st q))) la lc mb) := by
                      rw [hW12]
                      have z := S11.out.setVt q k
                      rw [EV.out, ML.out]
                      exact z
                    have P12 : Hid (RowAt W12 X3 42 OVv) := by rw [hW12]; exact P11.out.other _ _ (by simp; omega)
                    have R12 : Hid (RowAt W12 (X3 + 1) 34 #[.int .i64 0, .int .i64 0, .int .i64 0]) := by rw [hW12]; exact R11.out.other _ _ (by simp; omega)
                    have V12 : Hid (Kp w W12) := by rw [hW12]; exact S11.out.keep V11.out _ _
                    have O12 : Hid (OwnNums W12 (X3 + 2) 2 .i64 v8 (aL ++ [(q : Int)])) := by rw [hW12]; exact O11.out.kept grown_set (by omega)
                    have Z12 : Hid (X3 + 2 ≤ W12.heap.size) := by rw [hW12]; show _ ≤ _; simp [World.setCell]; exact Z11.out
                    have B12 : Hid (Below w0.heap.size w0 W12) := by rw [hW12]; exact B11.out.setCell hBb _
                    have sz12 : Hid (W12.heap.size = W11.heap.size) := by rw [hW12]; show _ = _; simp [World.setCell]
                    have y11 := (S11.out.cells qN).2.1
                    have f11 := S11.out.row.free (q * 6 + 1)
                    have HW12 := hid hW12
                    clear hW12
                    go_upto_region 24 with fail
                    rw [← HW12.out]
                    clear HW12 y11 f11 P11 R11 V11 B11 S11 O11 Z11 sz12
                    go_wp2
                    go_roundw
                    case rel => exact ⟨i + 1, (v + 1), gAsked A q, (putM st q (gVote (st k) k (st q))), aL ++ [(q : Int)], hlt, by go_num, by go_num, O12.out, by simp; omega, HA2.out, GN2.out, HST2.out, HAK2.out, by omega, HTB2.out, S12.out, P12.out, R12.out, V12.out, B12.out, Z12.out⟩
                    case measure => simp [intOf]; omega
                · have d2 : (VQ == -1) = false := by rw [beq_eq_false_iff_ne]; exact hv1
                  have HV1 := hid hv1
                  clear hv1
                  by_cases hv2 : VQ = (k : Int)
                  · have d3 : (VQ == (k : Int)) = true := by rw [beq_iff_eq]; exact hv2
                    have HV2 := hid hv2
                    clear hv2
                    cases NB with
                    | true =>
                      have EW : Hid (gWill (st k) k (gLate (st k) (st q)) = false) := hid (by rw [ML.out]; unfold gWill; rw [← HNB.out, ← HTC.out, ← HTQ.out, ← HVQ.out]; simp [HTT.out, HV2.out])
                      have EV : Hid (gVote (st k) k (st q) = gLate (st k) (st q)) := hid (by unfold gVote; rw [EW.out]; rfl)
                      have GN2 : Hid (gGath k (pe.drop (i + 1)) (gAsked A q) (putM st q (gVote (st k) k (st q))) v = RG) := hid (by have z := GN.out; rw [EW.out] at z; exact z)
                      clear GN EW
                      go_quiet ((go_at_call 10; exact Calls.quiet_of_same (KN _).out))
                      obtain ⟨W11, hW11⟩ : ∃ W, W = W10.drewN nq := ⟨_, rfl⟩
                      have S11 : Hid (SpL W11 w0.heap.size b N st la lc mb) := by rw [hW11]; exact S10.out.below (below_drewN' (Below.refl _ _) nq)
                      have P11 : Hid (RowAt W11 X3 42 OVv) := by rw [hW11]; exact P10.out
                      have R11 : Hid (RowAt W11 (X3 + 1) 34 #[.int .i64 0, .int .i64 0, .int .i64 0]) := by rw [hW11]; exact R10.out
                      have V11 : Hid (Kp w W11) := by rw [hW11]; exact ⟨V10.out.size, V10.out.row⟩
                      have B11 : Hid (Below w0.heap.size w0 W11) := by rw [hW11]; exact below_drewN' B10.out nq
                      have O11 : Hid (OwnNums W11 (X3 + 2) 2 .i64 v8 (aL ++ [(q : Int)])) := by rw [hW11]; exact O10.out
                      have Z11 : Hid (X3 + 2 ≤ W11.heap.size) := by rw [hW11]; exact Z10.out
                      rw [← hW11]
                      clear hW11 S10 P10 R10 V10 B10 O10 Z10 nq
                      have S12 : Hid (SpL W11 w0.heap.size b N (putM st q (gVote (st k) k (st q))) la lc mb) := by rw [EV.out, ML.out, putM_same]; exact S11.out
                      go_wp2
                      go_roundw
                      case rel => exact ⟨i + 1, v, gAsked A q, (putM st q (gVote (st k) k (st q))), aL ++ [(q : Int)], hlt, by go_num, rfl, O11.out, by simp; omega, HA2.out, GN2.out, HST2.out, HAK2.out, by omega, HTB2.out, S12.out, P11.out, R11.out, V11.out, B11.out, Z11.out⟩
                      case measure => simp [intOf]; omega
                    | false =>
                      have EW : Hid (gWill (st k) k (gLate (st k) (st q)) = true) := hid (by rw [ML.out]; unfold gWill; rw [← HNB.out, ← HTC.out, ← HTQ.out, ← HVQ.out]; simp [HTT.out, HV2.out])
                      have EV : Hid (gVote (st k) k (st q) = { gLate (st k) (st q) with vt := (k : Int) }) := hid (by unfold gVote; rw [EW.out]; rfl)
                      have GN2 : Hid (gGath k (pe.drop (i + 1)) (gAsked A q) (putM st q (gVote (st k) k (st q))) (v + 1) = RG) := hid (by have z := GN.out; rw [EW.out] at z; exact z)
                      clear GN EW
                      go_quiet ((go_at_call 10; exact Calls.quiet_of_same (KN _).out))
                      obtain ⟨W11, hW11⟩ : ∃ W, W = W10.drewN nq := ⟨_, rfl⟩
                      have S11 : Hid (SpL W11 w0.heap.size b N st la lc mb) := by rw [hW11]; exact S10.out.below (below_drewN' (Below.refl _ _) nq)
                      have P11 : Hid (RowAt W11 X3 42 OVv) := by rw [hW11]; exact P10.out
                      have R11 : Hid (RowAt W11 (X3 + 1) 34 #[.int .i64 0, .int .i64 0, .int .i64 0]) := by rw [hW11]; exact R10.out
                      have V11 : Hid (Kp w W11) := by rw [hW11]; exact ⟨V10.out.size, V10.out.row⟩
                      have B11 : Hid (Below w0.heap.size w0 W11) := by rw [hW11]; exact below_drewN' B10.out nq
                      have O11 : Hid (OwnNums W11 (X3 + 2) 2 .i64 v8 (aL ++ [(q : Int)])) := by rw [hW11]; exact O10.out
                      have Z11 : Hid (X3 + 2 ≤ W11.heap.size) := by rw [hW11]; exact Z10.out
                      rw [← hW11]
                      clear hW11 S10 P10 R10 V10 B10 O10 Z10 nq
                      obtain ⟨W12, hW12⟩ : ∃ W, W = W11.setCell ⟨b, q * 6 + 1, none⟩ (.int .i64 (k : Int)) := ⟨_, rfl⟩
                      have S12 : Hid (SpL W12 w0.heap.size b N (putM st q (gVote (st k) k (st q))) la lc mb) := by
                        rw [hW12]
                        have z := S11.out.setVt q k
                        rw [EV.out, ML.out]
                        exact z
                      have P12 : Hid (RowAt W12 X3 42 OVv) := by rw [hW12]; exact P11.out.other _ _ (by simp; omega)
                      have R12 : Hid (RowAt W12 (X3 + 1) 34 #[.int .i64 0, .int .i64 0, .int .i64 0]) := by rw [hW12]; exact R11.out.other _ _ (by simp; omega)
                      have V12 : Hid (Kp w W12) := by rw [hW12]; exact S11.out.keep V11.out _ _
                      have O12 : Hid (OwnNums W12 (X3 + 2) 2 .i64 v8 (aL ++ [(q : Int)])) := by rw [hW12]; exact O11.out.kept grown_set (by omega)
                      have Z12 : Hid (X3 + 2 ≤ W12.heap.size) := by rw [hW12]; show _ ≤ _; simp [World.setCell]; exact Z11.out
                      have B12 : Hid (Below w0.heap.size w0 W12) := by rw [hW12]; exact B11.out.setCell hBb _
                      have sz12 : Hid (W12.heap.size = W11.heap.size) := by rw [hW12]; show _ = _; simp [World.setCell]
                      have y11 := (S11.out.cells qN).2.1
                      have f11 := S11.out.row.free (q * 6 + 1)
                      have HW12 := hid hW12
                      clear hW12
                      go_upto_region 24 with fail
                      rw [← HW12.out]
                      clear HW12 y11 f11 P11 R11 V11 B11 S11 O11 Z11 sz12
                      go_wp2
                      go_roundw
                      case rel => exact ⟨i + 1, (v + 1), gAsked A q, (putM st q (gVote (st k) k (st q))), aL ++ [(q : Int)], hlt, by go_num, by go_num, O12.out, by simp; omega, HA2.out, GN2.out, HST2.out, HAK2.out, by omega, HTB2.out, S12.out, P12.out, R12.out, V12.out, B12.out, Z12.out⟩
                      case measure => simp [intOf]; omega
                  · have d3 : (VQ == (k : Int)) = false := by rw [beq_eq_false_iff_ne]; exact hv2
                    have HV2 := hid hv2
                    clear hv2
                    have EW : Hid (gWill (st k) k (gLate (st k) (st q)) = false) := hid (by rw [ML.out]; unfold gWill; rw [← HNB.out, ← HTC.out, ← HTQ.out, ← HVQ.out]; simp [HV1.out, HV2.out])
                    have EV : Hid (gVote (st k) k (st q) = gLate (st k) (st q)) := hid (by unfold gVote; rw [EW.out]; rfl)
                    have GN2 : Hid (gGath k (pe.drop (i + 1)) (gAsked A q) (putM st q (gVote (st k) k (st q))) v = RG) := hid (by have z := GN.out; rw [EW.out] at z; exact z)
                    clear GN EW
                    go_quiet (fail)
                    obtain ⟨W11, hW11⟩ : ∃ W, W = W10.drewN nq := ⟨_, rfl⟩
                    have S11 : Hid (SpL W11 w0.heap.size b N st la lc mb) := by rw [hW11]; exact S10.out.below (below_drewN' (Below.refl _ _) nq)
                    have P11 : Hid (RowAt W11 X3 42 OVv) := by rw [hW11]; exact P10.out
                    have R11 : Hid (RowAt W11 (X3 + 1) 34 #[.int .i64 0, .int .i64 0, .int .i64 0]) := by rw [hW11]; exact R10.out
                    have V11 : Hid (Kp w W11) := by rw [hW11]; exact ⟨V10.out.size, V10.out.row⟩
                    have B11 : Hid (Below w0.heap.size w0 W11) := by rw [hW11]; exact below_drewN' B10.out nq
                    have O11 : Hid (OwnNums W11 (X3 + 2) 2 .i64 v8 (aL ++ [(q : Int)])) := by rw [hW11]; exact O10.out
                    have Z11 : Hid (X3 + 2 ≤ W11.heap.size) := by rw [hW11]; exact Z10.out
                    rw [← hW11]
                    clear hW11 S10 P10 R10 V10 B10 O10 Z10 nq
                    have S12 : Hid (SpL W11 w0.heap.size b N (putM st q (gVote (st k) k (st q))) la lc mb) := by rw [EV.out, ML.out, putM_same]; exact S11.out
                    go_wp2
                    go_roundw
                    case rel => exact ⟨i + 1, v, gAsked A q, (putM st q (gVote (st k) k (st q))), aL ++ [(q : Int)], hlt, by go_num, rfl, O11.out, by simp; omega, HA2.out, GN2.out, HST2.out, HAK2.out, by omega, HTB2.out, S12.out, P11.out, R11.out, V11.out, B11.out, Z11.out⟩
                    case measure => simp [intOf]; omega
              · have d1 : (TQ == TC) = false := by rw [beq_eq_false_iff_ne]; exact ht
                have HTT := hid ht
                clear ht
                have EW : Hid (gWill (st k) k (gLate (st k) (st q)) = false) := hid (by rw [ML.out]; unfold gWill; rw [← HNB.out, ← HTC.out, ← HTQ.out, ← HVQ.out]; simp [HTT.out])
                have EV : Hid (gVote (st k) k (st q) = gLate (st k) (st q)) := hid (by unfold gVote; rw [EW.out]; rfl)
                have GN2 : Hid (gGath k (pe.drop (i + 1)) (gAsked A q) (putM st q (gVote (st k) k (st q))) v = RG) := hid (by have z := GN.out; rw [EW.out] at z; exact z)
                clear GN EW
                go_quiet (fail)
                obtain ⟨W11, hW11⟩ : ∃ W, W = W10.drewN nq := ⟨_, rfl⟩
                have S11 : Hid (SpL W11 w0.heap.size b N st la lc mb) := by rw [hW11]; exact S10.out.below (below_drewN' (Below.refl _ _) nq)
                have P11 : Hid (RowAt W11 X3 42 OVv) := by rw [hW11]; exact P10.out
                have R11 : Hid (RowAt W11 (X3 + 1) 34 #[.int .i64 0, .int .i64 0, .int .i64 0]) := by rw [hW11]; exact R10.out
                have V11 : Hid (Kp w W11) := by rw [hW11]; exact ⟨V10.out.size, V10.out.row⟩
                have B11 : Hid (Below w0.heap.size w0 W11) := by rw [hW11]; exact below_drewN' B10.out nq
                have O11 : Hid (OwnNums W11 (X3 + 2) 2 .i64 v8 (aL ++ [(q : Int)])) := by rw [hW11]; exact O10.out
                have Z11 : Hid (X3 + 2 ≤ W11.heap.size) := by rw [hW11]; exact Z10.out
                rw [← hW11]
                clear hW11 S10 P10 R10 V10 B10 O10 Z10 nq
                have S12 : Hid (SpL W11 w0.heap.size b N (putM st q (gVote (st k) k (st q))) la lc mb) := by rw [EV.out, ML.out, putM_same]; exact S11.out
                go_wp2
                go_roundw
                case rel => exact ⟨i + 1, v, gAsked A q, (putM st q (gVote (st k) k (st q))), aL ++ [(q : Int)], hlt, by go_num, rfl, O11.out, by simp; omega, HA2.out, GN2.out, HST2.out, HAK2.out, by omega, HTB2.out, S12.out, P11.out, R11.out, V11.out, B11.out, Z11.out⟩
                case measure => simp [intOf]; omega
        · have hlt' : ¬ (i : Int) < (pe.length : Int) := by omega
          have ei : i = pe.length := by omega
          have GE1 : Hid (RG = (st, v)) := hid (by rw [← HG.out, ei, List.drop_length]; rfl)
          by_cases hmaj : N < 2 * v
          · have hm2 : ¬ 2 * (v : Int) ≤ (N : Int) := by omega
            have HR : Hid (G1 = putM st k (gLead N k (st k)) ∧ G2 = ⟨0, (v : Int), 0⟩) := by
              have q : gElect N s k pe = (putM st k (gLead N k (st k)), ⟨0, (v : Int), 0⟩) := by
                unfold gElect
                rw [HE.out, if_pos rfl, ← HRG.out, GE1.out]
                exact if_pos hmaj
              rw [HG1.out, HG2.out, q]
              exact ⟨rfl, rfl⟩
            clear HIN HA HG HST HAK HTB GE1 HRG HE ei hlt
            go_upto_region 27 with fail
            clear p3 hlt'
            obtain ⟨W20, hW20⟩ : ∃ W, W = W0.setCell ⟨b, k * 6 + 2, none⟩ (.bool true) := ⟨_, rfl⟩
            have S20 : Hid (SpL W20 w0.heap.size b N (putM st k { st k with ld := true }) la lc mb) := by
              rw [hW20]
              exact S0.out.setLd k true
            have P20 : Hid (RowAt W20 X3 42 OVv) := by rw [hW20]; exact P0.out.other _ _ (by simp; omega)
            have R20 : Hid (RowAt W20 (X3 + 1) 34 #[.int .i64 0, .int .i64 0, .int .i64 0]) := by rw [hW20]; exact R0.out.other _ _ (by simp; omega)
            have V20 : Hid (Kp w W20) := by rw [hW20]; exact S0.out.keep V0.out _ _
            have B20 : Hid (Below w0.heap.size w0 W20) := by rw [hW20]; exact B0.out.setCell hBb _
            have sz20 : Hid (W20.heap.size = W0.heap.size) := by rw [hW20]; show _ = _; simp [World.setCell]
            have y0 := (S0.out.cells hk).2.2.1
            have f0 := S0.out.row.free (k * 6 + 2)
            have HW20 := hid hW20
            clear hW20
            go_upto_region 28 with fail
            rw [← HW20.out]
            clear HW20 y0 f0 P0 R0 V0 B0 S0 
            obtain ⟨XM, hXM⟩ : ∃ X, X = W20.heap.size := ⟨_, rfl⟩
            obtain ⟨W21, hW21⟩ : ∃ W, W = W20.alloc (.cells (ints .i64 (List.replicate N 0)) 2) := ⟨_, rfl⟩
            have hmk := mk64 W20 N (by omega)
            rw [← hXM, ← hW21] at hmk
            have b21 : Below W20.heap.size W20 W21 := by rw [hW21]; exact (Below.refl _ _).alloc (Nat.le_refl _) _
            have M21 : Hid (RowAt W21 XM 2 (ints .i64 (List.replicate N 0))) := by rw [hW21, hXM]; exact RowAt.new _ _ _
            have S21 := hid (S20.out.below b21)
            have P21 := hid (P20.out.below b21 P20.out.lt)
            have R21 := hid (R20.out.below b21 R20.out.lt)
            have V21 := hid (V20.out.below b21)
            have B21 := hid (B20.out.trans (b21.mono B20.out.size))
            have zx : X3 + 2 ≤ XM := by rw [hXM, sz20.out]; exact hZ
            clear hW21 hXM b21 S20 P20 R20 V20 B20 sz20 hZ
            obtain ⟨mb2, hmb2⟩ : ∃ f : Nat → Nat, f = fun j => if j = k then XM else mb j := ⟨_, rfl⟩
            obtain ⟨W22, hW22⟩ : ∃ W, W = W21.setCell ⟨b, k * 6 + 5, none⟩ (.slice (some ⟨XM, 0, none⟩) N N) := ⟨_, rfl⟩
            have S22 : Hid (SpL W22 w0.heap.size b N (putM st k { st k with ld := true, mt := List.replicate N 0 }) la lc mb2) := by
              rw [hW22, hmb2]
              have z := S21.out.setMt k XM (List.replicate N 0) M21.out (by simp) (by have := HBX.out; omega) (fun j hj => by have := hH3.out j hj; omega)
              rw [putM_self, putM_putM] at z
              exact z
            have P22 : Hid (RowAt W22 X3 42 OVv) := by rw [hW22]; exact P21.out.other _ _ (by simp; omega)
            have R22 : Hid (RowAt W22 (X3 + 1) 34 #[.int .i64 0, .int .i64 0, .int .i64 0]) := by rw [hW22]; exact R21.out.other _ _ (by simp; omega)
            have V22 : Hid (Kp w W22) := by rw [hW22]; exact S21.out.keep V21.out _ _
            have B22 : Hid (Below w0.heap.size w0 W22) := by rw [hW22]; exact B21.out.setCell hBb _
            have mk2 : Hid (mb2 k = XM) := by rw [hmb2]; exact if_pos rfl
            have y21 := (S21.out.cells hk).2.2.2.2.2
            have f21 := S21.out.row.free (k * 6 + 5)
            have HW22 := hid hW22
            clear hW22 hmb2
            go_upto_region 29 with fail
            rw [← HW22.out]
            clear HW22 y21 f21 hmk S21 P21 R21 V21 B21 M21
            obtain ⟨LN, hLN⟩ : ∃ l, l = (st k).lg.length := ⟨_, rfl⟩
            obtain ⟨_, _, _, _, z4, z5⟩ := S22.out.cells hk
            have z6 : W22.cell? ⟨XM, k, none⟩ = some (.int .i64 0) := by
              have z := (S22.out.mat k hk).1
              rw [mk2.out, putM_self] at z
              rw [z.cell k, ints_at (by simpa using hk)]
              simp [hk]
            have f6 : W22.frozen? ⟨XM, k, none⟩ = false := by
              have z := (S22.out.mat k hk).1
              rw [mk2.out] at z
              exact z.free k
            rw [mk2.out] at z5
            rw [putM_self] at z4
            dsimp only at z4
            rw [← hLN] at z4
            have HLN := hid hLN
            obtain ⟨W23, hW23⟩ : ∃ W, W = (W22.setCell ⟨XM, k, none⟩ (.int .i64 (LN : Int))).drew := ⟨_, rfl⟩
            have S23 : Hid (SpL W23 w0.heap.size b N (putM st k (gLead N k (st k))) la lc mb2) := by
              have z := S22.out.putMt k hk k (LN : Int)
              rw [mk2.out, putM_self, putM_putM] at z
              unfold gLead
              rw [← HLN.out, hW23]
              exact z.below (Below.refl _ _).drew
            have R23 : Hid (RowAt W23 (X3 + 1) 34 #[.int .i64 0, .int .i64 0, .int .i64 0]) := by rw [hW23]; exact R22.out.other _ _ (by simp; omega)
            have V23 : Hid (Kp w W23) := by rw [hW23, ← mk2.out]; exact (S22.out.keepM V22.out hk _ _).drew
            have B23 : Hid (Below w0.heap.size w0 W23) := by rw [hW23]; exact (B22.out.setCell (by have := HBX.out; simp; omega) _).drew
            have HW23 := hid hW23
            clear S22 P22 R22 V22 B22 hLN hW23
            go_region
            rw [← HW23.out]
            clear z4 z5 z6 f6 HW23
            go_upto_region 30 with fail
            go_wp2_with (refine wpList_store_row rfl 34 (.tmp 4) (.tmp 186) rfl (X3 + 1) #[.int .i64 0, .int .i64 (v : Int), .int .i64 0] rfl rfl _ _ R23.out (by kernel_rfl) rfl (by simp [Value.oneCell']) ?_)
            try simp only [Exit.inBlock, Exit.then]
            refine bodyPost_ret (v := .agg #[.int .i64 0, .int .i64 (v : Int), .int .i64 0]) ?_ rfl ⟨by rw [HR.out.2], ⟨la, lc, mb2, by rw [HR.out.1]; exact S23.out.aside R23.out (by decide) (by decide) (by decide) _⟩, below_setRow B23.out _ _ (by have := HBX.out; omega), V23.out.setRow (Nat.le_trans hwX.out (Nat.le_add_right _ _)) _⟩
            exact results_cell_row Try.results25 _ _ (X3 + 1) _ _ _ _ rfl (R23.out.setRow _) Try.underlying34 rfl (by kernel_rfl)
          · have hm2 : 2 * (v : Int) ≤ (N : Int) := by omega
            have HR : Hid (G1 = st ∧ G2 = ⟨6, (v : Int), 0⟩) := by
              have q : gElect N s k pe = (st, ⟨6, (v : Int), 0⟩) := by
                unfold gElect
                rw [HE.out, if_pos rfl, ← HRG.out, GE1.out]
                exact if_neg hmaj
              rw [HG1.out, HG2.out, q]
              exact ⟨rfl, rfl⟩
            go_upto_region 26 with fail
            go_wp2_with (refine wpList_store_row rfl 34 (.tmp 4) (.tmp 160) rfl (X3 + 1) #[.int .i64 6, .int .i64 (v : Int), .int .i64 0] rfl rfl _ _ R0.out (by kernel_rfl) rfl (by simp [Value.oneCell']) ?_)
            try simp only [Exit.inBlock, Exit.then]
            refine bodyPost_ret (v := .agg #[.int .i64 6, .int .i64 (v : Int), .int .i64 0]) ?_ rfl ⟨by rw [HR.out.2], ⟨la, lc, mb, by rw [HR.out.1]; exact S0.out.aside R0.out (by decide) (by decide) (by decide) _⟩, below_setRow B0.out _ _ (by have := HBX.out; omega), V0.out.setRow (Nat.le_trans hwX.out (Nat.le_add_right _ _)) _⟩
            exact results_cell_row Try.results25 _ _ (X3 + 1) _ _ _ _ rfl (R0.out.setRow _) Try.underlying34 rfl (by kernel_rfl)
end Go.Proofs.Ytmhkelfmciepaaa
