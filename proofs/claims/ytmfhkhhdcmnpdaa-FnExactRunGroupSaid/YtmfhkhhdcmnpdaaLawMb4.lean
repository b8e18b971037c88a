import Derived.Test.YtmfhkhhdcmnpdaaLawMb3
namespace Go.Proofs.Ytmfhkhhdcmnpdaa
open Go.RowKit
set_option linter.unusedVariables false
/-! Marks of members held, runs marked and held, operations marked (by genlawmb4.py). -/
set_option maxRecDepth 20000 in
set_option maxHeartbeats 8000000 in
theorem heldMbs (B g c k0 : Nat) (la : Nat → Option Addr) (lc mb : Nat → Nat) (N : Nat) (s : Gst) (f : Nat → Value) (hN : N ≤ 9) (hc : N ≤ c) (hs : ∀ j, (s j).lg.length ≤ 500) (hk1 : 1 ≤ k0) (hk : k0 ≤ 1000000) (w : World) (h : MdI w B g c N k0 la lc mb N s f) :
    Calls Try.prog 46 #[.slice (some ⟨g, 0, none⟩) N c, .int .i64 (k0 : Int)] w fun e w' => e = .returned (.int .i64 ((kM k0 N s N : Nat) : Int)) ∧ Below w.heap.size w w' := by
  have H0 := hid h
  have HS := hid hs
  clear h hs
  go_enter Try.func46, Try.ntmps46
  go_wp2_with fail
  go_loopw [1, 5] (fun y1 y5 wr => ∃ i : Nat, i ≤ N ∧ y5 = .int .i64 (i : Int) ∧ y1 = .int .i64 ((kM k0 N s i : Nat) : Int) ∧ Below w.heap.size w wr) (fun _ y5 _ => N - (intOf y5).toNat)
  case atStart => exact ⟨0, Nat.zero_le _, rfl, rfl, Below.refl _ _⟩
  case round =>
    obtain ⟨i, hi, rfl, rfl, hB⟩ := hrel
    have BB := hid hB
    clear hB
    by_cases hlt : i < N
    · have hlt' : (i : Int) < (N : Int) := by omega
      have i0 : (0 : Int) ≤ (i : Int) := by omega
      obtain ⟨K, hK⟩ : ∃ K, K = kM k0 N s i := ⟨_, rfl⟩
      rw [← hK]
      have kle := kM_le (k0 := k0) hN HS.out i
      have kge := kM_ge k0 N s i
      rw [← hK] at kle kge
      have hKb : K ≤ 1100000 := by omega
      have hK1 : 1 ≤ K := by omega
      have HK := hid hK
      have R := H0.out.row.below BB.out H0.out.row.lt
      have up : ∀ r, r < 6 → upK k0 la lc mb N s f N (i * 6 + r) = mkM k0 la lc mb N s (i * 6 + r) := fun r hr => if_pos (by omega)
      have c0 : wr.cell? ⟨g, i * 6, none⟩ = some (.int .i64 (K : Int)) := (R.cell (by omega)).trans (by rw [show i * 6 = i * 6 + 0 from rfl, up 0 (by omega), Nat.add_zero, mkM0 k0 la lc mb N s i K hK])
      have c1 : wr.cell? ⟨g, i * 6 + 1, none⟩ = some (.int .i64 ((K : Int) + 1)) := (R.cell (by omega)).trans (by rw [up 1 (by omega), mkM1 k0 la lc mb N s i K hK])
      have c2 : wr.cell? ⟨g, i * 6 + 2, none⟩ = some (.bool (((K : Int) + 1 + 1) % 3 == 0)) := (R.cell (by omega)).trans (by rw [up 2 (by omega), mkM2 k0 la lc mb N s i K hK])
      have c3 : wr.cell? ⟨g, i * 6 + 3, none⟩ = some (.int .i64 ((K : Int) + 1 + 1 + 1)) := (R.cell (by omega)).trans (by rw [up 3 (by omega), mkM3 k0 la lc mb N s i K hK])
      have c4 : wr.cell? ⟨g, i * 6 + 4, none⟩ = some (.slice (la i) (s i).lg.length (lc i)) := (R.cell (by omega)).trans (by rw [up 4 (by omega), mkM4])
      have c5 : wr.cell? ⟨g, i * 6 + 5, none⟩ = some (.slice (some ⟨mb i, 0, none⟩) N N) := (R.cell (by omega)).trans (by rw [up 5 (by omega), mkM5])
      have d0 : ((K : Int) != (K : Int)) = false := by simp
      have d1 : (((K : Int) + 1) != ((K : Int) + 1)) = false := by simp
      obtain ⟨b2, hb2⟩ : ∃ b, b = (((K : Int) + 1 + 1) % 3 == 0) := ⟨_, rfl⟩
      have d2 : ((((K : Int) + 1 + 1) % 3 == 0) != (((K : Int) + 1 + 1) % 3 == 0)) = false := by simp
      have d3 : (((K : Int) + 1 + 1 + 1) != ((K : Int) + 1 + 1 + 1)) = false := by simp
      obtain ⟨LN, hLN⟩ : ∃ n, n = (s i).lg.length := ⟨_, rfl⟩
      obtain ⟨LA, hLA⟩ : ∃ x, x = la i := ⟨_, rfl⟩
      obtain ⟨LC, hLC⟩ : ∃ x, x = lc i := ⟨_, rfl⟩
      obtain ⟨MA, hMA⟩ : ∃ x, x = mb i := ⟨_, rfl⟩
      have hLb : LN ≤ 500 := by rw [hLN]; exact HS.out i
      have KL : Hid (∀ wx, Below w.heap.size w wx → Calls Try.prog 69 #[.slice LA LN LC, .int .i64 ((K : Int) + 1 + 1 + 1 + 1)] wx fun e w' => e = .returned (.int .i64 ((K + 4 + LN * 2 : Nat) : Int)) ∧ Below wx.heap.size wx w') := fun wx hx => by
        rw [show (K : Int) + 1 + 1 + 1 + 1 = ((K + 4 : Nat) : Int) by omega]
        have z := H0.out.lgd i hlt
        rw [← hLA, ← hLN, ← hLC, ← hK] at z
        rcases z with e0 | ⟨gl, f0, e1, e2, e3⟩
        · rw [e0]
          exact (heldGe0 LA LC (K + 4) wx).mono fun e w' ⟨q1, q2⟩ => ⟨q1, by rw [q2]; exact Below.refl _ _⟩
        · rw [e1]
          exact heldGe gl LN LC (K + 4) f0 (by omega) (by omega) e2 wx (e3.below hx e3.lt)
      have KI : Hid (∀ wx, Below w.heap.size w wx → Calls Try.prog 70 #[.slice (some ⟨MA, 0, none⟩) N N, .int .i64 ((K + 4 + LN * 2 : Nat) : Int)] wx fun e w' => e = .returned (.int .i64 ((K + 4 + LN * 2 + N : Nat) : Int)) ∧ w' = wx) := fun wx hx => by
        have z := H0.out.mtd i hlt
        rw [← hMA, ← hLN, ← hK] at z
        exact held64 MA 0 N N (K + 4 + LN * 2) wx (z.below hx z.lt) (by omega) (by omega)
      have KE : Hid (K + 4 + LN * 2 + N = kM k0 N s (i + 1)) := hid (by rw [kM, ← hK, ← hLN])
      rw [← hLA, ← hLN, ← hLC] at c4
      rw [← hMA] at c5
      clear R up hb2 b2 hLN hLA hLC hMA hK kle kge
      go_wp2_with fail
      refine (KL.out wr BB.out).mono ?_
      rintro e w2 ⟨rfl, hb2⟩
      have n2 : ¬ ((K + 4 + LN * 2 : Nat) : Int) < 0 := by omega
      have B2 := hid (BB.out.trans (hb2.mono BB.out.size))
      have c6 : w2.cell? ⟨g, i * 6 + 5, none⟩ = some (.slice (some ⟨MA, 0, none⟩) N N) := (hb2.cell (p := ⟨g, i * 6 + 5, none⟩) (Nat.lt_of_lt_of_le H0.out.row.lt BB.out.size)).trans c5
      clear hb2 KL c0 c1 c2 c3 c4 c5 d0 d1 d2 d3
      obtain ⟨K2, hK2⟩ : ∃ x, x = K + 4 + LN * 2 := ⟨_, rfl⟩
      rw [← hK2] at n2 KI KE ⊢
      have hK2b : K2 ≤ 1102000 := by omega
      clear hK2
      go_wp2_with fail
      refine (KI.out w2 B2.out).mono ?_
      rintro e w3 ⟨rfl, hw3⟩
      obtain rfl := hw3.symm
      have n3 : ¬ ((K2 + N : Nat) : Int) < 0 := by omega
      clear hw3 KI c6
      obtain ⟨K3, hK3⟩ : ∃ x, x = K2 + N := ⟨_, rfl⟩
      rw [← hK3] at n3 KE ⊢
      clear hK3 n2
      go_wp2
      go_roundw
      case rel => exact ⟨i + 1, by omega, by go_num, by rw [← KE.out], B2.out⟩
      case measure => simp [intOf]; omega
    · have hlt' : ¬ (i : Int) < (N : Int) := by omega
      have ei : i = N := by omega
      have HE := hid ei
      clear ei
      go_wp2
      go_ret
      exact ⟨by rw [HE.out]; rfl, BB.out⟩
theorem MdI.below {w w' : World} {B g c k0 N : Nat} {s : Gst} {la : Nat → Option Addr} {lc mb : Nat → Nat} {f : Nat → Value} (h : MdI w B g c N k0 la lc mb N s f) (hb : Below w.heap.size w w') : MdI w' B g c N k0 la lc mb N s f := by
  refine ⟨h.row.below hb h.row.lt, fun j hj => ?_, fun j hj => (h.mtd j hj).below hb (h.mtd j hj).lt, fun j h1 h2 => absurd h1 (by omega), fun j h1 h2 => absurd h1 (by omega)⟩
  rcases h.lgd j hj with h0 | ⟨gl, f0, e1, e2, e3⟩
  · exact .inl h0
  · exact .inr ⟨gl, f0, e1, e2, e3.below hb e3.lt⟩
/-- outs, marked -/
def OuM (w : World) (a : Option Addr) (n c : Nat) : Prop := n = 0 ∨ ∃ g f0, a = some ⟨g, 0, none⟩ ∧ n ≤ c ∧ FRow w g 34 (c * 3) (upM mkO 1 (n * 3) f0)
theorem OuM.below {w w' : World} {a : Option Addr} {n c : Nat} (h : OuM w a n c) (hb : Below w.heap.size w w') : OuM w' a n c := by
  rcases h with h0 | ⟨g, f0, e1, e2, e3⟩
  · exact .inl h0
  · exact .inr ⟨g, f0, e1, e2, e3.below hb e3.lt⟩
theorem OwnGo.frow {w : World} {B : Nat} {a : Option Addr} {c : Nat} {L : List Gou} (h : OwnGo w B (.slice a L.length c) L) (hL : L.length ≠ 0) : ∃ g f0, a = some ⟨g, 0, none⟩ ∧ L.length ≤ c ∧ B ≤ g ∧ FRow w g 34 (c * 3) f0 ∧ ∀ p, p < L.length * 3 → ∃ x : Int, f0 p = .int .i64 x := by
  rcases h.2 with ⟨_, h1⟩ | ⟨g, cap, cur, he, hb, hr, hnc, hm, hsz, htk⟩
  · exact absurd h1 hL
  · injection he with e1 e2 e3
    subst e3
    have e0 : ∀ p, p < L.length * 3 → cur[p]? = (gouL L)[p]? := fun p hp => by
      have q := congrArg (·[p]?) htk
      simp only [List.getElem?_take] at q
      rw [if_pos hp, Array.getElem?_toList] at q
      exact q
    have hd : ∀ p v, cur[p]? = some v → cur.getD p (.int .i64 0) = v := fun p v hp => by simp [Array.getD_eq_getD_getElem?, hp]
    refine ⟨g, fun p => cur.getD p (.int .i64 0), e1, hnc, hb, FRow.of (show RowAt w g 34 cur from hr) hsz fun p hp => ?_, fun p hp => ?_⟩
    · rw [Array.getElem?_eq_getElem (by omega)]
      simp [Array.getD, show p < cur.size by omega]
    · have q := gouL_at L (p / 3) (by omega)
      rcases (by omega : p = p / 3 * 3 ∨ p = p / 3 * 3 + 1 ∨ p = p / 3 * 3 + 2) with e | e | e
      · exact ⟨_, hd _ _ (by rw [e0 _ hp, e]; exact q.1)⟩
      · exact ⟨_, hd _ _ (by rw [e0 _ hp, e]; exact q.2.1)⟩
      · exact ⟨_, hd _ _ (by rw [e0 _ hp, e]; exact q.2.2)⟩
theorem MmL.farX {w w' : World} {B g c N x : Nat} {s : Gst} {la : Nat → Option Addr} {lc mb : Nat → Nat} {cs : Array Value} (h : MmL w B g c N s la lc mb) (hg : w.grownBy w' (some x)) (hx : RowAt w x 34 cs) : MmL w' B g c N s la lc mb := by
  have keep : ∀ (b : Nat) (t : TypeId) (ds : Array Value), RowAt w b t ds → t ≠ 34 → RowAt w' b t ds := fun b t ds hr ht => (hg.block b hr.lt (fun e => row_apart hr hx ht (Option.some.inj e))).trans hr
  refine ⟨h.lo, h.cap, ?_, fun k hk => (h.log k hk).keep fun b ds _ hr => keep _ _ _ hr (by decide), fun k hk => ⟨keep _ _ _ (h.mat k hk).1 (by decide), (h.mat k hk).2⟩, h.nem, h.nel⟩
  obtain ⟨f, ⟨ds, r1, r2, r3⟩, r4⟩ := h.row
  exact ⟨f, ⟨ds, keep _ _ _ r1 (by decide), r2, r3⟩, r4⟩
set_option maxRecDepth 20000 in
theorem markMb0 (a : Option Addr) (c k0 : Nat) (w : World) :
    Calls Try.prog 44 #[.slice a 0 c, .int .i64 (k0 : Int)] w fun e w' => e = .returned (.int .i64 (k0 : Int)) ∧ w' = w := by
  go_enter Try.func44, Try.ntmps44
  go_wp2_with fail
  go_loopw [1, 5] (fun y1 y5 wr => y1 = .int .i64 (k0 : Int) ∧ y5 = .int .i64 0 ∧ wr = w) (fun _ _ _ => 0)
  case atStart => exact ⟨rfl, rfl, rfl⟩
  case round =>
    obtain ⟨rfl, rfl, hw⟩ := hrel
    obtain rfl := hw.symm
    go_wp2
    go_ret
    exact ⟨rfl, rfl⟩
set_option maxRecDepth 20000 in
theorem heldMb0 (a : Option Addr) (c k0 : Nat) (w : World) :
    Calls Try.prog 46 #[.slice a 0 c, .int .i64 (k0 : Int)] w fun e w' => e = .returned (.int .i64 (k0 : Int)) ∧ w' = w := by
  go_enter Try.func46, Try.ntmps46
  go_wp2_with fail
  go_loopw [1, 5] (fun y1 y5 wr => y1 = .int .i64 (k0 : Int) ∧ y5 = .int .i64 0 ∧ wr = w) (fun _ _ _ => 0)
  case atStart => exact ⟨rfl, rfl, rfl⟩
  case round =>
    obtain ⟨rfl, rfl, hw⟩ := hrel
    obtain rfl := hw.symm
    go_wp2
    go_ret
    exact ⟨rfl, rfl⟩
set_option maxRecDepth 20000 in
theorem markRun0 (w : World) : Calls Try.prog 19 #[.agg #[.slice none 0 0, .slice none 0 0], .int .i64 1] w fun e w' => e = .returned (.int .i64 1) ∧ Below w.heap.size w w' := by
  have K1 := fun w => hid (markGo0 none 0 1 w)
  have K2 := fun w => hid (markMb0 none 0 1 w)
  go_enter Try.func19, Try.ntmps19
  go_wp2_with fail
  refine (K1 _).out.mono ?_
  rintro e w2 ⟨rfl, hw2⟩
  obtain rfl := hw2.symm
  clear hw2
  go_wp2_with fail
  refine (K2 _).out.mono ?_
  rintro e w3 ⟨rfl, hw3⟩
  obtain rfl := hw3.symm
  clear hw3
  go_wp2
  go_ret
  exact ⟨rfl, (Below.refl _ _).alloc (Nat.le_refl _) _⟩
set_option maxRecDepth 20000 in
theorem heldRun0 (w : World) : Calls Try.prog 20 #[.agg #[.slice none 0 0, .slice none 0 0], .int .i64 1] w fun e w' => e = .returned (.int .i64 1) ∧ Below w.heap.size w w' := by
  have K1 := fun w => hid (heldGo0 none 0 1 w)
  have K2 := fun w => hid (heldMb0 none 0 1 w)
  go_enter Try.func20, Try.ntmps20
  go_wp2_with fail
  refine (K1 _).out.mono ?_
  rintro e w2 ⟨rfl, hw2⟩
  obtain rfl := hw2.symm
  clear hw2
  go_wp2_with fail
  refine (K2 _).out.mono ?_
  rintro e w3 ⟨rfl, hw3⟩
  obtain rfl := hw3.symm
  clear hw3
  go_wp2
  go_ret
  exact ⟨rfl, (Below.refl _ _).alloc (Nat.le_refl _) _⟩
/-- a run, marked -/
def MarkR (B : Nat) (a : Option Addr) (n ca g c : Nat) (la : Nat → Option Addr) (lc mb : Nat → Nat) (N : Nat) (s : Gst) (w : World) (e : Ending) (w' : World) : Prop := e = .returned (.int .i64 ((kM (1 + n * 3) N s N : Nat) : Int)) ∧ (∃ f, MdI w' B g c N (1 + n * 3) la lc mb N s f) ∧ OuM w' a n ca ∧ Below B w w' ∧ ∀ x cs, RowAt w x 31 cs → RowAt w' x 31 cs
set_option maxRecDepth 20000 in
set_option maxHeartbeats 8000000 in
theorem markRunG (B : Nat) (a : Option Addr) (n ca : Nat) (L : List Gou) (hL : L.length = n) (hn : n ≤ 2000) (g c : Nat) (la : Nat → Option Addr) (lc mb : Nat → Nat) (N : Nat) (s : Gst) (hN : N ≤ 9) (hs : ∀ j, (s j).lg.length ≤ 500) (w : World) (hBw : B ≤ w.heap.size) (h1 : OwnGo w B (.slice a n ca) L) (h : MmL w B g c N s la lc mb) :
    Calls Try.prog 19 #[.agg #[.slice a n ca, .slice (some ⟨g, 0, none⟩) N c], .int .i64 1] w fun e w' => MarkR B a n ca g c la lc mb N s w e w' := by
  obtain ⟨X, hX⟩ : ∃ X, X = w.heap.size := ⟨_, rfl⟩
  obtain ⟨W1, hW1⟩ : ∃ W, W = w.alloc (.cells #[.slice a n ca, .slice (some ⟨g, 0, none⟩) N c] 31) := ⟨_, rfl⟩
  have b1 : Below w.heap.size w W1 := by rw [hW1]; exact (Below.refl _ _).alloc (Nat.le_refl _) _
  have P1 : Hid (RowAt W1 X 31 #[.slice a n ca, .slice (some ⟨g, 0, none⟩) N c]) := by rw [hW1, hX]; exact RowAt.new _ _ _
  have keep1 : ∀ (b : Nat) (t : TypeId) (ds : Array Value), RowAt w b t ds → RowAt W1 b t ds := fun b t ds hr => hr.below b1 hr.lt
  have M1 : Hid (MmL W1 B g c N s la lc mb) := by
    refine ⟨h.lo, h.cap, ?_, fun k hk => (h.log k hk).keep fun b ds _ hr => keep1 _ _ _ hr, fun k hk => ⟨keep1 _ _ _ (h.mat k hk).1, (h.mat k hk).2⟩, h.nem, h.nel⟩
    obtain ⟨f, ⟨ds, r1, r2, r3⟩, r4⟩ := h.row
    exact ⟨f, ⟨ds, keep1 _ _ _ r1, r2, r3⟩, r4⟩
  have KP1 : Hid (∀ b t ds, RowAt w b t ds → RowAt W1 b t ds) := keep1
  have O1 : Hid (OwnGo W1 B (.slice a n ca) L) := h1.kq ((Kq.refl w).below b1)
  have B1 : Hid (Below B w W1) := b1.mono hBw
  have Z1 : Hid (B ≤ W1.heap.size) := Nat.le_trans hBw b1.size
  have HS := hid hs
  have HX := hid hX
  have HW1 := hid hW1
  have KO : Hid (Calls Try.prog 43 #[.slice a n ca, .int .i64 1] W1 fun e w' => e = .returned (.int .i64 ((1 + n * 3 : Nat) : Int)) ∧ MmL w' B g c N s la lc mb ∧ Below B w w' ∧ B ≤ w'.heap.size ∧ (∀ x cs, RowAt W1 x 31 cs → RowAt w' x 31 cs) ∧ (n = 0 ∨ ∃ go f0, a = some ⟨go, 0, none⟩ ∧ n ≤ ca ∧ FRow w' go 34 (ca * 3) (upM mkO 1 (n * 3) f0))) := by
    by_cases e0 : n = 0
    · rw [e0]
      exact (markGo0 a ca 1 W1).mono fun e w' ⟨q1, q2⟩ => ⟨q1, by rw [q2]; exact M1.out, by rw [q2]; exact B1.out, by rw [q2]; exact Z1.out, fun x cs q => by rw [q2]; exact q, .inl rfl⟩
    · have hL2 : OwnGo W1 B (.slice a L.length ca) L := by rw [hL]; exact O1.out
      obtain ⟨go, f0, q1, q2, q3, q4, q5⟩ := hL2.frow (by rw [hL]; exact e0)
      rw [hL] at q2 q5
      rw [q1]
      refine (markGo go n ca 1 f0 (by omega) q2 q5 W1 q4).mono fun e w' ⟨z1, z2, z3⟩ => ?_
      obtain ⟨cs, hr, _⟩ := q4
      refine ⟨z1, M1.out.farX z3 hr, B1.out.grown z3 Z1.out (fun x hx => by cases hx; exact q3), Nat.le_trans Z1.out z3.size, fun x ds q => (z3.block x q.lt (fun e => row_apart q hr (by decide) (Option.some.inj e))).trans q, .inr ⟨go, f0, rfl, q2, z2⟩⟩
  have a0 := P1.out.cell 0
  clear hX hW1 h1 h b1 keep1 hs hBw
  go_enter Try.func19, Try.ntmps19
  go_upto_region 1 with fail
  rw [← HW1.out, ← HX.out]
  clear HW1
  go_wp2_with fail
  refine KO.out.mono ?_
  rintro e w2 ⟨rfl, hM2, hB2, hZ2, hP2, hO2⟩
  have B2 := hid hB2
  have O2 := hid hO2
  have a1 := (hP2 _ _ P1.out).cell 1
  obtain ⟨K0, hK0⟩ : ∃ x, x = 1 + n * 3 := ⟨_, rfl⟩
  have HK0 := hid hK0
  obtain ⟨f, hI, hA⟩ := hM2.md K0
  have hx0 : ∀ x0, ((∃ f0, a = some ⟨x0, 0, none⟩ ∧ FRow w2 x0 34 (ca * 3) f0) ∨ ∃ cs, RowAt w2 x0 31 cs) → x0 ≠ g ∧ ∀ j, j < N → x0 ≠ mb j ∧ ∀ y, (Value.slice (la j) (s j).lg.length (lc j)).ownBlock = some y → x0 ≠ y := fun x0 hx => by
    obtain ⟨ff, ⟨ds, r1, _⟩, _⟩ := hM2.row
    rcases hx with ⟨f0, e1, ⟨cs, hr, _⟩⟩ | ⟨cs, hr⟩
    · refine ⟨row_apart hr r1 (by decide), fun j hj => ⟨row_apart hr (hM2.mat j hj).1 (by decide), fun y hy => ?_⟩⟩
      obtain ⟨es, hd⟩ := (hM2.log j hj).row hy
      exact row_apart hr hd (by decide)
    · refine ⟨row_apart hr r1 (by decide), fun j hj => ⟨row_apart hr (hM2.mat j hj).1 (by decide), fun y hy => ?_⟩⟩
      obtain ⟨es, hd⟩ := (hM2.log j hj).row hy
      exact row_apart hr hd (by decide)
  have KM := hid (markMbs _ B g c K0 la lc mb N s f hx0 hN HS.out (by omega) (by omega) hA w2 hZ2 hI)
  have G2 : Hid (∀ x cs, RowAt w x 31 cs → RowAt w2 x 31 cs) := fun x cs q => hP2 x cs (KP1.out x 31 cs q)
  rw [← hK0]
  clear hM2 hB2 hZ2 hP2 hO2 KO a0 hK0 hI hA hx0 M1 O1 B1 Z1 P1
  go_wp2_with fail
  refine KM.out.mono ?_
  rintro e w3 ⟨rfl, hI3, hB3, hX3⟩
  have I3 := hid hI3
  have B3 := hid (B2.out.trans hB3)
  have O3 : Hid (OuM w3 a n ca) := by
    rcases O2.out with e0 | ⟨go, f0, e1, e2, e3⟩
    · exact .inl e0
    · have e4 := e3
      obtain ⟨cs, hr, h5, h6⟩ := e4
      exact .inr ⟨go, f0, e1, e2, ⟨cs, hX3 go (.inl ⟨_, e1, e3⟩) _ _ hr, h5, h6⟩⟩
  have G3 : Hid (∀ x cs, RowAt w x 31 cs → RowAt w3 x 31 cs) := fun x cs q => hX3 x (.inr ⟨cs, G2.out x cs q⟩) _ _ (G2.out x cs q)
  clear hI3 hB3 hX3 KM
  go_wp2
  go_ret
  exact ⟨by rw [HK0.out]; rfl, ⟨f, by have z := I3.out; rw [HK0.out] at z; exact z⟩, O3.out, B3.out, G3.out⟩
set_option maxRecDepth 20000 in
set_option maxHeartbeats 8000000 in
theorem heldRunG (B : Nat) (a : Option Addr) (n ca : Nat) (hn : n ≤ 2000) (g c : Nat) (la : Nat → Option Addr) (lc mb : Nat → Nat) (N : Nat) (s : Gst) (hN : N ≤ 9) (hc : N ≤ c) (hs : ∀ j, (s j).lg.length ≤ 500) (w : World) (h1 : OuM w a n ca) (h : ∃ f, MdI w B g c N (1 + n * 3) la lc mb N s f) :
    Calls Try.prog 20 #[.agg #[.slice a n ca, .slice (some ⟨g, 0, none⟩) N c], .int .i64 1] w fun e w' => e = .returned (.int .i64 ((kM (1 + n * 3) N s N : Nat) : Int)) ∧ Below w.heap.size w w' := by
  obtain ⟨f, h⟩ := h
  obtain ⟨X, hX⟩ : ∃ X, X = w.heap.size := ⟨_, rfl⟩
  obtain ⟨W1, hW1⟩ : ∃ W, W = w.alloc (.cells #[.slice a n ca, .slice (some ⟨g, 0, none⟩) N c] 31) := ⟨_, rfl⟩
  have b1 : Below w.heap.size w W1 := by rw [hW1]; exact (Below.refl _ _).alloc (Nat.le_refl _) _
  have P1 : Hid (RowAt W1 X 31 #[.slice a n ca, .slice (some ⟨g, 0, none⟩) N c]) := by rw [hW1, hX]; exact RowAt.new _ _ _
  have M1 := hid (h.below b1)
  have B1 := hid b1
  have HS := hid hs
  have HX := hid hX
  have HW1 := hid hW1
  have KO : Hid (Calls Try.prog 45 #[.slice a n ca, .int .i64 1] W1 fun e w' => e = .returned (.int .i64 ((1 + n * 3 : Nat) : Int)) ∧ w' = W1) := by
    rcases h1 with e0 | ⟨go, f0, e1, e2, e3⟩
    · rw [e0]
      exact heldGo0 a ca 1 W1
    · rw [e1]
      exact heldGo go n ca 1 f0 (by omega) e2 W1 (e3.below b1 e3.lt)
  have a0 := P1.out.cell 0
  have a1 := P1.out.cell 1
  obtain ⟨K0, hK0⟩ : ∃ x, x = 1 + n * 3 := ⟨_, rfl⟩
  have hK0b : K0 ≤ 10000 := by omega
  have hK01 : 1 ≤ K0 := by omega
  rw [← hK0] at KO M1 ⊢
  have n1 : ¬ ((K0 : Nat) : Int) < 0 := by omega
  have KM := hid (heldMbs B g c K0 la lc mb N s f hN hc HS.out hK01 (by omega) W1 M1.out)
  obtain ⟨KN, hKN⟩ : ∃ x, x = kM K0 N s N := ⟨_, rfl⟩
  have n2 : ¬ ((KN : Nat) : Int) < 0 := by omega
  have kle := kM_le (k0 := K0) hN HS.out N
  rw [← hKN] at KM kle ⊢
  have hKNb : KN ≤ 100000 := by omega
  clear hX hW1 h1 h b1 hs hK0 hKN kle
  go_enter Try.func20, Try.ntmps20
  go_upto_region 1 with fail
  rw [← HW1.out, ← HX.out]
  clear HW1
  go_wp2_with fail
  refine KO.out.mono ?_
  rintro e w2 ⟨rfl, hw2⟩
  obtain rfl := hw2.symm
  clear hw2 KO
  go_wp2_with fail
  refine KM.out.mono ?_
  rintro e w3 ⟨rfl, hb3⟩
  have B3 := hid (B1.out.trans (hb3.mono B1.out.size))
  clear hb3 KM
  go_wp2
  go_ret
  exact ⟨rfl, B3.out⟩
def MarkG (lo hi : Nat) (w : World) (e : Ending) (w' : World) : Prop := ∃ r : Nat, e = .returned (.int .i64 (r : Int)) ∧ Turned lo hi w w'
/-- operations that are marked: what is left of their shape -/
structure MkS (w : World) (b n : Nat) (o : Nat → Gop) (pq : Nat → Nat) : Prop where
  row : ∃ f, FRow w b 42 (n * 5) f ∧ ∀ k, k < n → (∃ x : Int, f (k * 5) = .int .i64 x) ∧ (∃ x : Int, f (k * 5 + 1) = .int .i64 x) ∧ (∃ x : Int, f (k * 5 + 2) = .int .i64 x) ∧ f (k * 5 + 3) = .slice (some ⟨pq k, 0, none⟩) (o k).pe.length (o k).pe.length ∧ ∃ t : ByteArray, f (k * 5 + 4) = .string t
  pee : ∀ k, k < n → ∃ xs, Wr .i64 w (pq k) 0 xs ∧ xs.length = (o k).pe.length
theorem MkG.mkS {w : World} {b n : Nat} {o : Nat → Gop} {pq : Nat → Nat} (h : MkG w b n o pq) : MkS w b n o pq :=
  ⟨⟨_, h.row, fun k hk => ⟨⟨_, gqF0 o pq k⟩, ⟨_, gqF1 o pq k⟩, ⟨_, gqF2 o pq k⟩, gqF3 o pq k, ⟨_, gqF4 o pq k⟩⟩⟩, fun k hk => ⟨_, (h.pee k hk).1, rfl⟩⟩
theorem Turned.trans {lo hi : Nat} {w1 w2 w3 : World} (h : Turned lo hi w1 w2) (h' : Turned lo hi w2 w3) : Turned lo hi w1 w3 :=
  ⟨h'.os.trans h.os, h'.tape.trans h.tape, h'.output.trans h.output, Nat.le_trans h.size h'.size, fun k hk hn => (h'.block k (Nat.lt_of_lt_of_le hk h.size) hn).trans (h.block k hk hn)⟩
set_option maxRecDepth 20000 in
set_option maxHeartbeats 8000000 in
theorem markGops (lo hi b n : Nat) (o : Nat → Gop) (pq : Nat → Nat) (hn : n + gTot o n ≤ 1048576) (hlo : lo ≤ b ∧ b < hi) (hpq : ∀ k, k < n → lo ≤ pq k ∧ pq k < hi ∧ b < pq k) (hne : ∀ i j, i < n → j < n → i ≠ j → pq i ≠ pq j) (w : World) (h : MkS w b n o pq) :
    Calls Try.prog 18 #[.slice (some ⟨b, 0, none⟩) n n, .int .i64 1] w fun e w' => MarkG lo hi w e w' := by
  have H0 := hid h
  have HP := hid hpq
  have HN := hid hne
  have HL := hid hlo
  clear h hpq hne hlo
  go_enter Try.func18, Try.ntmps18
  go_wp2_with fail
  go_loopw [1, 5] (fun y1 y5 wr => ∃ (i K : Nat), i ≤ n ∧ y5 = .int .i64 (i : Int) ∧ y1 = .int .i64 (K : Int) ∧ 1 ≤ K ∧ K ≤ 1 + i * 4 + gTot o i ∧ MkS wr b n o pq ∧ Turned lo hi w wr) (fun _ y5 _ => n - (intOf y5).toNat)
  case atStart => exact ⟨0, 1, Nat.zero_le _, rfl, rfl, Nat.le_refl _, by simp [gTot], H0.out, Turned.of_below (Below.refl _ _)⟩
  case round =>
    obtain ⟨i, K, hi', rfl, rfl, hK1, hK2, hI, hT⟩ := hrel
    have II := hid hI
    have TT := hid hT
    clear hI hT H0
    by_cases hlt : i < n
    · have hlt' : (i : Int) < (n : Int) := by omega
      have i0 : (0 : Int) ≤ (i : Int) := by omega
      have hm := gTot_mono o (show i + 1 ≤ n from hlt)
      have hst : gTot o (i + 1) = gTot o i + (o i).pe.length + (o i).tx.size := rfl
      have hKb : K ≤ 6000000 := by omega
      have HST := hid hst
      obtain ⟨f, hf, hsh⟩ := II.out.row
      obtain ⟨⟨x0, h0⟩, ⟨x1, h1⟩, ⟨x2, h2⟩, h3, ⟨t4, h4⟩⟩ := hsh i hlt
      obtain ⟨xs, hw, hxl⟩ := II.out.pee i hlt
      obtain ⟨PN, hPN⟩ : ∃ x, x = (o i).pe.length := ⟨_, rfl⟩
      obtain ⟨PQ, hPQ⟩ : ∃ x, x = pq i := ⟨_, rfl⟩
      have hPb : PN ≤ 1048576 := by omega
      have c0 : wr.cell? ⟨b, i * 5, none⟩ = some (.int .i64 x0) := (hf.cell (by omega)).trans (by rw [h0])
      have f0 := hf.free (i * 5)
      have s1 := hf.set (i * 5) (.int .i64 (K : Int))
      have c1 : (wr.setCell ⟨b, i * 5, none⟩ (.int .i64 (K : Int))).cell? ⟨b, i * 5 + 1, none⟩ = some (.int .i64 x1) := (s1.cell (by omega)).trans (by unfold putF; rw [if_neg (by omega), h1])
      have f1 := s1.free (i * 5 + 1)
      have s2 := s1.set (i * 5 + 1) (.int .i64 ((K : Int) + 1))
      obtain ⟨V2, hV2⟩ : ∃ W, W = (wr.setCell ⟨b, i * 5, none⟩ (.int .i64 (K : Int))).setCell ⟨b, i * 5 + 1, none⟩ (.int .i64 ((K : Int) + 1)) := ⟨_, rfl⟩
      rw [← hV2] at s2
      have c2 : V2.cell? ⟨b, i * 5 + 2, none⟩ = some (.int .i64 x2) := (s2.cell (by omega)).trans (by unfold putF; rw [if_neg (by omega), if_neg (by omega), h2])
      have f2 := s2.free (i * 5 + 2)
      have s3 := s2.set (i * 5 + 2) (.int .i64 ((K : Int) + 1 + 1))
      obtain ⟨V3, hV3⟩ : ∃ W, W = V2.setCell ⟨b, i * 5 + 2, none⟩ (.int .i64 ((K : Int) + 1 + 1)) := ⟨_, rfl⟩
      rw [← hV3] at s3
      obtain ⟨f3, hf3⟩ : ∃ f3, f3 = putF (putF (putF f (i * 5) (.int .i64 (K : Int))) (i * 5 + 1) (.int .i64 ((K : Int) + 1))) (i * 5 + 2) (.int .i64 ((K : Int) + 1 + 1)) := ⟨_, rfl⟩
      rw [← hf3] at s3
      have hsh3 : ∀ k, k < n → (∃ x : Int, f3 (k * 5) = .int .i64 x) ∧ (∃ x : Int, f3 (k * 5 + 1) = .int .i64 x) ∧ (∃ x : Int, f3 (k * 5 + 2) = .int .i64 x) ∧ f3 (k * 5 + 3) = .slice (some ⟨pq k, 0, none⟩) (o k).pe.length (o k).pe.length ∧ ∃ t : ByteArray, f3 (k * 5 + 4) = .string t := fun k hk => by
        obtain ⟨q0, q1, q2, q3, q4⟩ := hsh k hk
        rw [hf3]
        unfold putF
        by_cases e : k = i
        · subst e
          refine ⟨⟨_, by rw [if_neg (by omega), if_neg (by omega), if_pos rfl]⟩, ⟨_, by rw [if_neg (by omega), if_pos rfl]⟩, ⟨_, by rw [if_pos rfl]⟩, by rw [if_neg (by omega), if_neg (by omega), if_neg (by omega)]; exact q3, by rw [if_neg (by omega), if_neg (by omega), if_neg (by omega)]; exact q4⟩
        · refine ⟨by rw [if_neg (by omega), if_neg (by omega), if_neg (by omega)]; exact q0, by rw [if_neg (by omega), if_neg (by omega), if_neg (by omega)]; exact q1, by rw [if_neg (by omega), if_neg (by omega), if_neg (by omega)]; exact q2, by rw [if_neg (by omega), if_neg (by omega), if_neg (by omega)]; exact q3, by rw [if_neg (by omega), if_neg (by omega), if_neg (by omega)]; exact q4⟩
      have g3 : wr.grownBy V3 (some b) := by rw [hV3, hV2]; exact grown_trans (grown_trans grown_set grown_set) grown_set
      have T3 : Hid (Turned lo hi w V3) := TT.out.trans (Turned.of_grown g3 HL.out.1 HL.out.2)
      have PE3 : Hid (∀ k, k < n → ∃ xs, Wr .i64 V3 (pq k) 0 xs ∧ xs.length = (o k).pe.length) := fun k hk => by
        obtain ⟨ys, y1, y2⟩ := II.out.pee k hk
        exact ⟨ys, y1.far g3 (fun e => by have := (HP.out k hk).2.2; have := Option.some.inj e; omega), y2⟩
      have W3 : Hid (Wr .i64 V3 PQ 0 xs) := by rw [hPQ]; exact hw.far g3 (fun e => by have := (HP.out i hlt).2.2; have := Option.some.inj e; omega)
      have S3 := hid s3
      have SH3 := hid hsh3
      have c3 : V3.cell? ⟨b, i * 5 + 3, none⟩ = some (.slice (some ⟨PQ, 0, none⟩) PN PN) := (s3.cell (by omega)).trans (by rw [(hsh3 i hlt).2.2.2.1, hPQ, hPN])
      have HXL : Hid (xs.length = PN) := hid (by rw [hxl, hPN])
      have HPN := hid hPN
      have HPQ := hid hPQ
      have HV2 := hid hV2
      have HV3 := hid hV3
      clear hV2 hV3 s1 s2 s3 hf hsh h0 h1 h2 h3 h4 hw hxl hPN hPQ hf3 hsh3 g3 II TT hm hst
      go_upto_region 8 with fail
      rw [← HV2.out]
      clear HV2 c0 f0 c1 f1
      go_upto_region 10 with fail
      rw [← HV3.out]
      clear HV3 c2 f2
      have KI : Hid (Calls Try.prog 41 #[.slice (some ⟨PQ, 0, none⟩) PN PN, .int .i64 ((K : Int) + 1 + 1 + 1)] V3 fun e w' => e = .returned (.int .i64 ((K + 3 + PN : Nat) : Int)) ∧ Wr .i64 w' PQ 0 (marks (K + 3) PN) ∧ V3.grownBy w' (some PQ)) := by
        rw [show (K : Int) + 1 + 1 + 1 = ((K + 3 : Nat) : Int) by omega]
        have z := mark64 PQ 0 PN xs (K + 3) V3 W3.out (by rw [HXL.out]; omega) (by omega)
        rw [HXL.out] at z
        exact z
      go_wp2_with fail
      refine KI.out.mono ?_
      rintro e w5 ⟨rfl, hw5, hg5⟩
      obtain ⟨K5, hK5⟩ : ∃ x, x = K + 3 + PN := ⟨_, rfl⟩
      rw [← hK5]
      have hK5b : K5 ≤ 8000000 := by omega
      have hK51 : 1 ≤ K5 := by omega
      have T5 : Hid (Turned lo hi w w5) := T3.out.trans (Turned.of_grown hg5 (by rw [HPQ.out]; exact (HP.out i hlt).1) (by rw [HPQ.out]; exact (HP.out i hlt).2.1))
      have bq : b ≠ PQ := by rw [HPQ.out]; have := (HP.out i hlt).2.2; omega
      have S5 := hid (S3.out.far hg5 (fun e => bq (Option.some.inj e)))
      have PE5 : Hid (∀ k, k < n → ∃ xs, Wr .i64 w5 (pq k) 0 xs ∧ xs.length = (o k).pe.length) := fun k hk => by
        by_cases e : k = i
        · refine ⟨marks (K + 3) PN, by rw [e, ← HPQ.out]; exact hw5, by rw [marks_len, e, HPN.out]⟩
        · obtain ⟨ys, y1, y2⟩ := PE3.out k hk
          exact ⟨ys, y1.far hg5 (fun e2 => HN.out k i hk hlt e (by rw [← HPQ.out]; exact Option.some.inj e2)), y2⟩
      have HK5 := hid hK5
      clear hw5 hg5 KI c3 T3 PE3 W3 S3 hK5 bq
      have KT := hid (markT K5 hK51 (by omega) w5)
      go_wp2_with fail
      refine KT.out.mono ?_
      rintro e w6 ⟨rfl, hb6⟩
      have T6 : Hid (Turned lo hi w w6) := T5.out.trans (Turned.of_below hb6)
      have S6 := hid (S5.out.below hb6 S5.out.lt)
      have PE6 : Hid (∀ k, k < n → ∃ xs, Wr .i64 w6 (pq k) 0 xs ∧ xs.length = (o k).pe.length) := fun k hk => by
        obtain ⟨ys, y1, y2⟩ := PE5.out k hk
        exact ⟨ys, y1.below hb6 y1.lt, y2⟩
      clear hb6 KT T5 S5 PE5
      obtain ⟨t6, ht6⟩ := (SH3.out i hlt).2.2.2.2
      have c4 : w6.cell? ⟨b, i * 5 + 4, none⟩ = some (.string t6) := (S6.out.cell (by omega)).trans (by rw [ht6])
      have f4 := S6.out.free (i * 5 + 4)
      have NI : Hid (MkS (w6.setCell ⟨b, i * 5 + 4, none⟩ (.string (markB K5))) b n o pq) := by
        refine ⟨⟨_, S6.out.set (i * 5 + 4) (.string (markB K5)), fun k hk => ?_⟩, fun k hk => ?_⟩
        · obtain ⟨q0, q1, q2, q3, q4⟩ := SH3.out k hk
          unfold putF
          refine ⟨by rw [if_neg (by omega)]; exact q0, by rw [if_neg (by omega)]; exact q1, by rw [if_neg (by omega)]; exact q2, by rw [if_neg (by omega)]; exact q3, ?_⟩
          by_cases e : k = i
          · exact ⟨_, by rw [e, if_pos rfl]⟩
          · rw [if_neg (by omega)]; exact q4
        · obtain ⟨ys, y1, y2⟩ := PE6.out k hk
          exact ⟨ys, y1.other _ _ (by show pq k ≠ b; have := (HP.out k hk).2.2; omega), y2⟩
      have NT : Hid (Turned lo hi w (w6.setCell ⟨b, i * 5 + 4, none⟩ (.string (markB K5)))) := T6.out.trans (Turned.of_grown grown_set HL.out.1 HL.out.2)
      clear T6 S6 PE6 SH3 ht6
      go_wp2
      go_roundw
      case rel => exact ⟨i + 1, K5 + 1, by omega, by go_num, by go_num, by omega, by have := HK5.out; have := HST.out; have := HPN.out; omega, NI.out, NT.out⟩
      case measure => simp [intOf]; omega
    · have hlt' : ¬ (i : Int) < (n : Int) := by omega
      go_wp2
      go_ret
      exact ⟨K, rfl, TT.out⟩
end Go.Proofs.Ytmfhkhhdcmnpdaa
