import Derived.Test.YtekdphfifdfmbaaLawRm
import Derived.Test.YtekdphfifdfmbaaLawRns
import Derived.Test.YtekdphfifdfmbaaTurnKit
import Derived.Test.YtekdphfifdfmbaaEnO
namespace Go.Proofs.Ytekdphfifdfmbaa
open Go.RowKit
set_option linter.unusedVariables false
/-! Runs: made anew, each in a block of its own; marked, and their marks held. -/
structure MkR (w : World) (b m : Nat) (R : Nat → Rn) (G : Nat → Nat) : Prop where
  row : FRow w b 28 m (rnTo R G m)
  ent : ∀ k, k < m → FRow w (G k) 34 ((R k).n * 4) (enF (R k).o)
  gt : ∀ k, k < m → b < G k
  up : ∀ i j, i < j → j < m → G i < G j
theorem MkR.below {w w' : World} {b m : Nat} {R : Nat → Rn} {G : Nat → Nat} (h : MkR w b m R G) (hb : Below w.heap.size w w') : MkR w' b m R G :=
  ⟨h.row.below hb h.row.lt, fun k hk => (h.ent k hk).below hb (h.ent k hk).lt, h.gt, h.up⟩
theorem MkR.rns {w : World} {b m : Nat} {R : Nat → Rn} {G : Nat → Nat} (h : MkR w b m R G) : Rns w (some ⟨b, 0, none⟩) m m (mkR R G) :=
  ⟨Nat.le_refl _, .inr ⟨b, 0, rfl, h.row.lt, fun k hk => by
    have := h.row.cell hk
    rw [show rnTo R G m k = .slice (some ⟨G k, 0, none⟩) (R k).n (R k).n by unfold rnTo; rw [if_pos hk]] at this
    rw [Nat.zero_add]; exact this⟩, fun k hk => Ens.of_row (h.ent k hk)⟩
set_option maxRecDepth 20000 in
set_option maxHeartbeats 4000000 in
theorem toRnsA (a : Option Addr) (m cap : Nat) (R : Nat → Rn) (hm : m ≤ 1048576) (hn : ∀ k, k < m → (R k).n ≤ 1048576) (w : World) (h : Rns w a m cap R) :
    Calls Try.prog 13 #[.slice a m cap] w fun e w' => e = .returned (.slice (some ⟨w.heap.size, 0, none⟩) m m) ∧ ∃ G : Nat → Nat, MkR w' w.heap.size m R G ∧ Below w.heap.size w w' := by
  have hmk := fun w => mkRn w m hm
  have HH := hid h
  have HN := hid hn
  clear h hn
  go_enter Try.func13, Try.ntmps13
  go_wp2_with fail
  obtain ⟨W0, hW0⟩ : ∃ W0, W0 = w.alloc (.cells (madeCells #[.slice none 0 0] (m * 1)) 28) := ⟨_, rfl⟩
  have F0 : Hid (FRow W0 w.heap.size 28 m (rnTo R (fun _ => 0) 0)) := by
    rw [hW0]
    refine FRow.of (RowAt.new _ _ _) (by simp [madeCells]) fun p hp => ?_
    simp [madeCells, hp, rnTo, Nat.mod_one]
  have B0 : Hid (Below w.heap.size w W0) := by rw [hW0]; exact (Below.refl _ _).alloc (Nat.le_refl _) _
  have s0 : Hid (w.heap.size < W0.heap.size) := F0.out.lt
  rw [Nat.mul_one] at hW0
  rw [← hW0]
  clear hW0 hmk
  go_loopw [4] (fun q wr => ∃ (k : Nat) (G : Nat → Nat), k ≤ m ∧ q = .int .i64 k ∧ FRow wr w.heap.size 28 m (rnTo R G k) ∧ (∀ i, i < k → FRow wr (G i) 34 ((R i).n * 4) (enF (R i).o) ∧ w.heap.size < G i ∧ ∀ j, j < i → G j < G i) ∧ Below w.heap.size w wr) (fun q _ => m - (intOf q).toNat)
  case atStart => exact ⟨0, fun _ => 0, Nat.zero_le _, rfl, F0.out, fun i hi => absurd hi (by omega), B0.out⟩
  case round =>
    obtain ⟨k, G, hk, rfl, hF, hG, hB⟩ := hrel
    have HF := hid hF
    have HB := hid hB
    have HG := hid hG
    clear hF hB hG F0 B0 s0
    by_cases hlt : k < m
    · have hlt' : (k : Int) < (m : Int) := by omega
      have k0 : (0 : Int) ≤ (k : Int) := by omega
      rcases (HH.out.below HB.out).2.1 with h00 | ⟨b, off, rfl, hbl, hc⟩
      · omega
      have c0 := hc k hlt
      have K := hid (toRn (R k).ad (R k).n (R k).cap (R k).o (HN.out k hlt) wr ((HH.out.below HB.out).2.2 k hlt))
      obtain ⟨A, hA⟩ : ∃ v, v = (R k).ad := ⟨_, rfl⟩
      obtain ⟨N, hNN⟩ : ∃ v, v = (R k).n := ⟨_, rfl⟩
      obtain ⟨C, hC⟩ : ∃ v, v = (R k).cap := ⟨_, rfl⟩
      rw [← hA, ← hNN, ← hC] at K c0
      have HNN := hid hNN
      clear hc hA hNN hC
      go_wp2_with fail
      refine K.out.mono ?_
      rintro e w2 ⟨g, rfl, hF2, hg2, hb2⟩
      have F3 := hid (HF.out.below hb2 HF.out.lt)
      have B3 := hid (HB.out.trans (hb2.mono HB.out.size))
      have q0 := F3.out.cell (show k < m by omega)
      rw [show rnTo R G k k = .slice none 0 0 by unfold rnTo; rw [if_neg (by omega)]] at q0
      have f0 := F3.out.free k
      obtain ⟨W4, hW4⟩ : ∃ W, W = w2.setCell ⟨w.heap.size, k, none⟩ (.slice (some ⟨g, 0, none⟩) N N) := ⟨_, rfl⟩
      have gw : w.heap.size < g := Nat.lt_of_lt_of_le HF.out.lt hg2
      have F4 : Hid (FRow W4 w.heap.size 28 m (rnTo R (fun i => if i = k then g else G i) (k + 1))) := by
        rw [hW4]
        refine (F3.out.set k (.slice (some ⟨g, 0, none⟩) N N)).congr fun p hp => ?_
        unfold putF rnTo
        by_cases e : p = k
        · subst e; rw [if_pos rfl, if_pos (by omega), HNN.out]; simp
        · rw [if_neg e]
          by_cases h : p < k
          · rw [if_pos h, if_pos (by omega)]; simp [e]
          · rw [if_neg h, if_neg (by omega)]
      have G4 : Hid (∀ i, i < k + 1 → FRow W4 ((fun i => if i = k then g else G i) i) 34 ((R i).n * 4) (enF (R i).o) ∧ w.heap.size < (fun i => if i = k then g else G i) i ∧ ∀ j, j < i → (fun i => if i = k then g else G i) j < (fun i => if i = k then g else G i) i) := fun i hi => by
        by_cases e : i = k
        · subst e
          simp only [if_true]
          rw [hW4, ← HNN.out]
          exact ⟨hF2.other _ _ (by simp; omega), gw, fun j hj => by rw [if_neg (show ¬ j = i by omega)]; have := (HG.out j (by omega)).1.lt; omega⟩
        · simp only [if_neg e]
          obtain ⟨h1, h2, h3⟩ := HG.out i (by omega)
          rw [hW4]
          exact ⟨(h1.below hb2 h1.lt).other _ _ (by simp; omega), h2, fun j hj => by rw [if_neg (show ¬ j = k by omega)]; exact h3 j hj⟩
      have B4 : Hid (Below w.heap.size w W4) := by rw [hW4]; exact B3.out.setCell (Nat.le_refl _) _
      have HW4 := hid hW4
      clear hW4 hF2 hg2 hb2 gw HG F3 B3 K
      go_wp2
      rw [← HW4.out]
      go_roundw
      case rel => exact ⟨k + 1, _, by omega, by go_num, F4.out, G4.out, B4.out⟩
      case measure => simp [intOf]; omega
    · have hlt' : ¬ (k : Int) < (m : Int) := by omega
      have hke : k = m := by omega
      subst hke
      go_wp2
      go_ret
      exact ⟨rfl, ⟨G, HF.out, fun i hi => (HG.out i hi).1, fun i hi => (HG.out i hi).2.1, fun i j hi hj => (HG.out j hj).2.2 i hi⟩, HB.out⟩
theorem Turned.andThen {lo hi : Nat} {w1 w2 w3 : World} (h : Turned lo hi w1 w2) (h' : Turned lo hi w2 w3) : Turned lo hi w1 w3 :=
  ⟨h'.os.trans h.os, h'.tape.trans h.tape, h'.output.trans h.output, Nat.le_trans h.size h'.size, fun k hk hn => (h'.block k (Nat.lt_of_lt_of_le hk h.size) hn).trans (h.block k hk hn)⟩
set_option maxRecDepth 20000 in
set_option maxHeartbeats 4000000 in
theorem markRns (lo hi b m : Nat) (R : Nat → Rn) (G : Nat → Nat) (hm : m ≤ 1048576) (hc : cntR R m ≤ 1048576) (hG : ∀ k, k < m → lo ≤ G k ∧ G k < hi) (w : World) (h : MkR w b m R G) :
    Calls Try.prog 16 #[.slice (some ⟨b, 0, none⟩) m m, .int .i64 1] w fun e w' => e = .returned (.int .i64 ((1 + cntR R m * 4 : Nat) : Int)) ∧ Turned lo hi w w' := by
  have H0 := hid h
  have HG := hid hG
  have GT := hid h.gt
  have UP := hid h.up
  clear h hG
  go_enter Try.func16, Try.ntmps16
  go_wp2_with fail
  go_loopw [1, 5] (fun y1 y5 wr => ∃ i : Nat, i ≤ m ∧ y5 = .int .i64 (i : Int) ∧ y1 = .int .i64 ((1 + cntR R i * 4 : Nat) : Int) ∧ FRow wr b 28 m (rnTo R G m) ∧ (∀ k, i ≤ k → k < m → FRow wr (G k) 34 ((R k).n * 4) (enF (R k).o)) ∧ Turned lo hi w wr) (fun _ y5 _ => m - (intOf y5).toNat)
  case atStart => exact ⟨0, Nat.zero_le _, rfl, rfl, H0.out.row, fun k _ hk => H0.out.ent k hk, Turned.of_below (Below.refl _ _)⟩
  case round =>
    obtain ⟨i, hi', rfl, rfl, hF, hE, hT⟩ := hrel
    have FF := hid hF
    have EE := hid hE
    have TT := hid hT
    clear hF hE hT H0
    by_cases hlt : i < m
    · have hlt' : (i : Int) < (m : Int) := by omega
      have i0 : (0 : Int) ≤ (i : Int) := by omega
      have z1 : cntR R (i + 1) = cntR R i + (R i).n := rfl
      have z2 := cntR_mono R (show i + 1 ≤ m by omega)
      obtain ⟨K, hK⟩ : ∃ K, K = 1 + cntR R i * 4 := ⟨_, rfl⟩
      rw [← hK]
      have c0 : wr.cell? ⟨b, i, none⟩ = some (.slice (some ⟨G i, 0, none⟩) (R i).n (R i).n) := (FF.out.cell hlt).trans (by unfold rnTo; rw [if_pos hlt])
      have KM := hid (markEn (G i) (R i).n (R i).n K (enF (R i).o) (by omega) (by omega) (Nat.le_refl _) (fun j hj => ⟨⟨_, enF0 _ j⟩, ⟨_, enF1 _ j⟩, ⟨_, enF2 _ j⟩, ⟨_, enF3 _ j⟩⟩) wr (EE.out i (Nat.le_refl _) hlt))
      obtain ⟨GI, hGI⟩ : ∃ v, v = G i := ⟨_, rfl⟩
      obtain ⟨N, hN⟩ : ∃ v, v = (R i).n := ⟨_, rfl⟩
      rw [← hGI, ← hN] at KM c0
      have HGI := hid hGI
      have HN : Hid (K + N * 4 = 1 + cntR R (i + 1) * 4) := by show _ = _; omega
      have hKN : K + N * 4 ≤ 1073741824 := by omega
      clear hGI hN hK z1 z2
      go_wp2_with fail
      refine KM.out.mono ?_
      rintro e w2 ⟨rfl, hF2, hg2⟩
      have gl := HG.out i hlt
      have F2 : Hid (FRow w2 b 28 m (rnTo R G m)) := FF.out.far hg2 (fun e => by have := GT.out i hlt; have := Option.some.inj e; have := HGI.out; omega)
      have E2 : Hid (∀ k, i + 1 ≤ k → k < m → FRow w2 (G k) 34 ((R k).n * 4) (enF (R k).o)) := fun k h1 h2 => (EE.out k (by omega) h2).far hg2 (fun e => by have := UP.out i k (by omega) h2; have := Option.some.inj e; have := HGI.out; omega)
      have T2 : Hid (Turned lo hi w w2) := TT.out.andThen (Turned.of_grown hg2 (by have := HGI.out; omega) (by have := HGI.out; omega))
      clear hF2 hg2 KM c0 gl FF EE TT
      rw [HN.out] at hKN ⊢
      go_wp2
      go_roundw
      case rel => exact ⟨i + 1, by omega, by go_num, rfl, F2.out, E2.out, T2.out⟩
      case measure => simp [intOf]; omega
    · have hlt' : ¬ (i : Int) < (m : Int) := by omega
      have ei : i = m := by omega
      have HE := hid ei
      clear ei
      go_wp2
      go_ret
      exact ⟨by rw [← HE.out]; rfl, TT.out⟩
/-- entries that bear marks -/
def EnM (w : World) (a : Option Addr) (n c : Nat) : Prop := n = 0 ∨ ∃ g f0, a = some ⟨g, 0, none⟩ ∧ n ≤ c ∧ FRow w g 34 (c * 4) (upE 1 (n * 4) f0)
theorem EnM.below {w w' : World} {a : Option Addr} {n c : Nat} (h : EnM w a n c) (hb : Below w.heap.size w w') : EnM w' a n c := by
  rcases h with h | ⟨g, f0, h1, h2, h3⟩
  · exact .inl h
  · exact .inr ⟨g, f0, h1, h2, h3.below hb h3.lt⟩
theorem OwnEn.frow {w : World} {B : Nat} {a : Option Addr} {n c : Nat} {L : List En} (h : OwnEn w B (.slice a n c) L) (hL : L.length ≠ 0) : ∃ g f0, a = some ⟨g, 0, none⟩ ∧ n = L.length ∧ n ≤ c ∧ B ≤ g ∧ FRow w g 34 (c * 4) f0 ∧ ∀ i, i < n → (∃ t : ByteArray, f0 (i * 4) = .string t) ∧ (∃ x : Int, f0 (i * 4 + 1) = .int .i64 x) ∧ (∃ b : Bool, f0 (i * 4 + 2) = .bool b) ∧ ∃ t : ByteArray, f0 (i * 4 + 3) = .string t := by
  rcases h.2 with ⟨h0, h1⟩ | ⟨g, cap, cur, he, hb, hr, hnc, hm, hsz, htk⟩
  · exact absurd h1 hL
  · cases he
    have e1 : ∀ p, p < L.length * 4 → cur[p]? = (enL L)[p]? := fun p hp => by
      have := congrArg (·[p]?) htk
      simp only [List.getElem?_take] at this
      rw [if_pos hp, Array.getElem?_toList] at this
      exact this
    have gd : ∀ p v, cur[p]? = some v → cur.getD p undef = v := fun p v e => by rw [Array.getD_eq_getD_getElem?, e]; rfl
    refine ⟨g, fun p => cur.getD p undef, rfl, rfl, hnc, hb, ⟨cur, hr, hsz, fun p hp => by show _ = some (cur.getD p undef); rw [Array.getD_eq_getD_getElem?, Array.getElem?_eq_getElem (by omega)]; rfl⟩, fun i hi => ?_⟩
    obtain ⟨q0, q1, q2, q3⟩ := enL_at L i hi
    exact ⟨⟨_, gd _ _ ((e1 _ (by omega)).trans q0)⟩, ⟨_, gd _ _ ((e1 _ (by omega)).trans q1)⟩, ⟨_, gd _ _ ((e1 _ (by omega)).trans q2)⟩, ⟨_, gd _ _ ((e1 _ (by omega)).trans q3)⟩⟩
/-- entries that a call owns are marked -/
theorem markOwnEn (B : Nat) (a : Option Addr) (n c : Nat) (L : List En) (hn : n ≤ 1048576) (w : World) (hB : B ≤ w.heap.size) (h : OwnEn w B (.slice a n c) L) :
    Calls Try.prog 41 #[.slice a n c, .int .i64 1] w fun e w' => e = .returned (.int .i64 ((1 + n * 4 : Nat) : Int)) ∧ EnM w' a n c ∧ Below B w w' ∧ ∀ b t cs, t ≠ 34 → RowAt w b t cs → RowAt w' b t cs := by
  by_cases hL : L.length = 0
  · have e := h.ens.1
    rw [hL] at e
    subst e
    refine (markEn0 a c 1 w).mono ?_
    rintro e w2 ⟨rfl, rfl⟩
    exact ⟨rfl, .inl rfl, Below.refl _ _, fun _ _ _ _ r => r⟩
  · obtain ⟨g, f0, rfl, hn2, hc, hb, hF, hs⟩ := h.frow hL
    refine (markEn g n c 1 f0 (Nat.le_refl _) (by omega) hc hs w hF).mono ?_
    rintro e w2 ⟨rfl, hF2, hg2⟩
    refine ⟨rfl, .inr ⟨g, f0, rfl, hc, hF2⟩, ⟨hg2.os, hg2.tape, hg2.output, hg2.size, fun k hk => hg2.block k (Nat.lt_of_lt_of_le hk hB) (fun e => by have := Option.some.inj e; omega)⟩, fun b t cs ht r => (hg2.block b r.lt (fun e => ?_)).trans r⟩
    have e := Option.some.inj e
    subst e
    obtain ⟨cs', r', _⟩ := hF
    have r2 : RowAt w b t cs := r
    unfold RowAt at r' r2
    rw [r2] at r'
    injection r' with r'
    injection r' with _ r'
    exact ht r'
set_option maxRecDepth 20000 in
set_option maxHeartbeats 1000000 in
theorem markRn (B : Nat) (a : Option Addr) (n c : Nat) (L : List En) (hn : n ≤ 1048576) (w : World) (hB : B ≤ w.heap.size) (h : OwnEn w B (.slice a n c) L) :
    Calls Try.prog 17 #[.agg #[.slice a n c], .int .i64 1] w fun e w' => e = .returned (.int .i64 ((1 + n * 4 : Nat) : Int)) ∧ EnM w' a n c ∧ Below B w w' ∧ ∀ b t cs, t ≠ 34 → RowAt w b t cs → RowAt w' b t cs := by
  obtain ⟨W1, hW1⟩ : ∃ W, W = w.alloc (.cells #[.slice a n c] 28) := ⟨_, rfl⟩
  have b1 : Below w.heap.size w W1 := by rw [hW1]; exact (Below.refl _ _).alloc (Nat.le_refl _) _
  have r1 := (RowAt.new w 28 #[.slice a n c]).cell 0
  rw [← hW1] at r1
  have B1 := hid b1
  have K := hid (markOwnEn B a n c L hn W1 (Nat.le_trans hB b1.size) (h.below b1))
  clear h b1
  go_enter Try.func17, Try.ntmps17
  go_upto_region 1 with fail
  rw [← hW1]
  clear hW1
  go_wp2_with fail
  refine K.out.mono ?_
  rintro e w2 ⟨rfl, hE, hb, hk⟩
  have B2 : Hid (Below B w w2) := (B1.out.mono hB).trans hb
  have E2 := hid hE
  have K2 : Hid (∀ b t cs, t ≠ 34 → RowAt w b t cs → RowAt w2 b t cs) := fun b t cs ht r => hk b t cs ht (r.below B1.out r.lt)
  clear hE hb hk K r1
  go_wp2
  go_ret
  exact ⟨rfl, E2.out, B2.out, K2.out⟩
theorem heldEnM (a : Option Addr) (n c : Nat) (hn : n ≤ 1048576) (w : World) (h : EnM w a n c) :
    Calls Try.prog 42 #[.slice a n c, .int .i64 1] w fun e w' => e = .returned (.int .i64 ((1 + n * 4 : Nat) : Int)) ∧ Below w.heap.size w w' := by
  rcases h with rfl | ⟨g, f0, rfl, hc, hF⟩
  · refine (heldEn0 a c 1 w).mono ?_
    rintro e w2 ⟨rfl, rfl⟩
    exact ⟨rfl, Below.refl _ _⟩
  · exact heldEn g n c 1 f0 (Nat.le_refl _) (by omega) hc w hF
set_option maxRecDepth 20000 in
set_option maxHeartbeats 1000000 in
theorem heldRn (a : Option Addr) (n c : Nat) (hn : n ≤ 1048576) (w : World) (h : EnM w a n c) :
    Calls Try.prog 18 #[.agg #[.slice a n c], .int .i64 1] w fun e w' => e = .returned (.int .i64 ((1 + n * 4 : Nat) : Int)) ∧ Below w.heap.size w w' := by
  obtain ⟨W1, hW1⟩ : ∃ W, W = w.alloc (.cells #[.slice a n c] 28) := ⟨_, rfl⟩
  have b1 : Below w.heap.size w W1 := by rw [hW1]; exact (Below.refl _ _).alloc (Nat.le_refl _) _
  have r1 := (RowAt.new w 28 #[.slice a n c]).cell 0
  rw [← hW1] at r1
  have B1 := hid b1
  have K := hid (heldEnM a n c hn W1 (h.below b1))
  obtain ⟨M, hM⟩ : ∃ M : Nat, M = 1 + n * 4 := ⟨_, rfl⟩
  rw [← hM] at K ⊢
  have d0 : ¬ (M : Int) < 0 := by omega
  have hMb : M ≤ 1073741824 := by omega
  clear h b1 hM
  go_enter Try.func18, Try.ntmps18
  go_upto_region 1 with fail
  rw [← hW1]
  clear hW1
  go_wp2_with fail
  refine K.out.mono ?_
  rintro e w2 ⟨rfl, hb⟩
  have B2 := hid (B1.out.trans (hb.mono B1.out.size))
  clear hb K r1
  go_wp2
  go_ret
  exact ⟨rfl, B2.out⟩
end Go.Proofs.Ytekdphfifdfmbaa
