import Derived.Test.YtnchjcaclfcaiaaGreatDoorLwR
import Derived.Test.YtnchjcaclfcaiaaGreatDoorRdA
import Derived.Test.YtnchjcaclfcaiaaGreatDoorSRead
namespace Go.Proofs.YtnchjcaclfcaiaaGreatDoor
open Go.RowKit
/-! ReadRequest: the law. -/
theorem finO_P {m0 : ByteArray} {a : List UInt8} {q : Option (List Hp)} {m p : ByteArray} {Q : List Hp} (h : finO m0 a q = some (m, p, Q)) : rqP (mkRq m p Q [] ⟨#[]⟩) := by
  cases q with
  | none => rw [finO_none1] at h; cases h
  | some L =>
    cases hu : unL a with
    | none => rw [finO_none2 _ _ hu] at h; cases h
    | some x =>
      by_cases hr : rqP (mkRq m0 (ofL x) L [] ⟨#[]⟩)
      · rw [finO_yes _ _ hu hr] at h
        simp only [Option.some.injEq, Prod.mk.injEq] at h
        obtain ⟨rfl, rfl, rfl⟩ := h
        exact hr
      · rw [finO_no _ _ hu hr] at h; cases h
theorem fstO_P {t : List UInt8} {m p : ByteArray} {Q : List Hp} (h : fstO t = some (m, p, Q)) : rqP (mkRq m p Q [] ⟨#[]⟩) := by
  cases h1 : cutP [32] t with
  | none => rw [fstO_none h1] at h; cases h
  | some x =>
    obtain ⟨mm, rest⟩ := x
    cases h2 : cutP [63] rest with
    | none => rw [fstO_plain h1 h2] at h; exact finO_P h
    | some y => rw [fstO_query (a := y.1) (b := y.2) h1 h2] at h; exact finO_P h
theorem rdE_P {m p : ByteArray} {Q H : List Hp} {line n : Nat} {R : List UInt8} {m' p' : ByteArray} {Q' H' : List Hp} {b : ByteArray} {left : Nat} (h : rdE m p Q H line n R = .ok m' p' Q' H' b left) (hn : n ≤ 100000) (hr : rqP (mkRq m p Q H ⟨#[]⟩)) : rqP (mkRq m' p' Q' H' ⟨#[]⟩) ∧ b.size ≤ 100000 := by
  cases R with
  | nil => cases h
  | cons x B =>
    have e : rdE m p Q H line n (x :: B) = if x = 10 then (if B.length < n then .short else .ok m p Q H (ofL (B.take n)) (B.length - n)) else .bad (line + 1) := rfl
    rw [e] at h
    by_cases h1 : x = 10
    · rw [if_pos h1] at h
      by_cases h2 : B.length < n
      · rw [if_pos h2] at h; cases h
      · rw [if_neg h2] at h
        cases h
        refine ⟨hr, ?_⟩
        have : (ofL (B.take n)).size = (B.take n).length := by simp [ofL, ByteArray.size]
        rw [this, List.length_take]
        omega
    · rw [if_neg h1] at h; cases h
theorem rdH_P {m p : ByteArray} {Q : List Hp} {m' p' : ByteArray} {Q' H' : List Hp} {b : ByteArray} {left : Nat} : ∀ (f line : Nat) (H : List Hp) (R : List UInt8), rdH m p Q f line H R = .ok m' p' Q' H' b left → rqP (mkRq m p Q H ⟨#[]⟩) → rqP (mkRq m' p' Q' H' ⟨#[]⟩) ∧ b.size ≤ 100000 := by
  intro f
  induction f with
  | zero => intro line H R h; cases h
  | succ f ih =>
    intro line H R h hr
    cases q1 : cutP [10] R with
    | none => rw [rdH_none q1] at h; cases h
    | some x =>
      obtain ⟨t, R'⟩ := x
      by_cases h1 : lenS <+: t
      · by_cases h2 : lnP (t.drop 8)
        · rw [rdH_len q1 h1 h2] at h
          refine rdE_P h ?_ hr
          obtain ⟨n, hn, e⟩ := h2
          rw [e, numL_dec]
          exact hn
        · rw [rdH_lenBad q1 h1 h2] at h; cases h
      · cases q2 : cutP [58, 32] t with
        | none => rw [rdH_bad q1 h1 q2] at h; cases h
        | some y =>
          obtain ⟨nm, vl⟩ := y
          by_cases h3 : rqP (mkRq m p Q (H ++ [(⟨ofL nm, ofL vl⟩ : Hp)]) ⟨#[]⟩)
          · rw [rdH_go q1 h1 q2 h3] at h
            exact ih _ _ _ h h3
          · rw [rdH_no q1 h1 q2 h3] at h; cases h
theorem rdO_P {R : List UInt8} {m' p' : ByteArray} {Q' H' : List Hp} {b : ByteArray} {left : Nat} (h : rdO R = .ok m' p' Q' H' b left) : rqP (mkRq m' p' Q' H' ⟨#[]⟩) ∧ b.size ≤ 100000 := by
  cases q1 : cutP [10] R with
  | none => rw [rdO_none q1] at h; cases h
  | some x =>
    obtain ⟨t, R'⟩ := x
    cases q2 : fstO t with
    | none => rw [rdO_bad q1 q2] at h; cases h
    | some y =>
      obtain ⟨m, p, Q⟩ := y
      rw [rdO_go q1 q2] at h
      exact rdH_P _ _ _ _ h (fstO_P q2)
theorem readO_P {d : ByteArray} {a : Int} {m' p' : ByteArray} {Q' H' : List Hp} {b : ByteArray} {left : Nat} (h : readO d a = .ok m' p' Q' H' b left) : rqP (mkRq m' p' Q' H' ⟨#[]⟩) ∧ b.size ≤ 100000 := by
  unfold readO at h
  split at h
  · exact rdO_P h
  · cases h
/-- what the two answers have in common -/
structure RdTup (c l : Int) (m p : ByteArray) (Q H : List Hp) (b : ByteArray) (N : Int) (d : ByteArray) (a : Int) : Prop where
  bound : ∀ a1 c1 a2 c2, RqB ⟨m, p, ⟨a1, Q.length, c1, hAt Q⟩, ⟨a2, H.length, c2, hAt H⟩, b⟩ 1048576
  n1 : Q.length ≤ 100
  n2 : H.length ≤ 100
  s : ∀ w e w', AnsRd d a w e w' → ∃ a1 c1 a2 c2, e = .returned (.agg #[.int .i64 c, .int .i64 l, .string m, .string p, .slice a1 Q.length c1, .slice a2 H.length c2, .string b, .int .i64 N]) ∧ Hps w' a1 Q.length c1 (hAt Q) ∧ Hps w' a2 H.length c2 (hAt H) ∧ Below w.heap.size w w'
  i : ∀ w e w', AnsRI d a w e w' → ∃ a1 c1 a2 c2, e = .returned (.agg #[.int .i64 c, .int .i64 l, .string m, .string p, .slice a1 Q.length c1, .slice a2 H.length c2, .string b, .int .i64 N]) ∧ OwnHp w' w.heap.size (.slice a1 Q.length c1) Q ∧ OwnHp w' w.heap.size (.slice a2 H.length c2) H ∧ (∀ g, (Value.slice a1 Q.length c1).ownBlock = some g → (Value.slice a2 H.length c2).ownBlock ≠ some g) ∧ Below w.heap.size w w'
theorem rqb_nil : ∀ a1 c1 a2 c2, RqB ⟨⟨#[]⟩, ⟨#[]⟩, ⟨a1, ([] : List Hp).length, c1, hAt []⟩, ⟨a2, ([] : List Hp).length, c2, hAt []⟩, ⟨#[]⟩⟩ 1048576 := fun _ _ _ _ =>
  ⟨show 0 ≤ 1048576 by omega, show 0 ≤ 1048576 by omega, ⟨by simp, fun i h => absurd h (by simp)⟩, ⟨by simp, fun i h => absurd h (by simp)⟩, show 0 ≤ 1048576 by omega⟩
theorem own_none (w : World) (base : Nat) : OwnHp w base (.slice none 0 0) [] := World.ownsRow_nil w base _ _
theorem hps_none (w : World) : Hps w none 0 0 (hAt []) := ⟨Nat.le_refl _, .inl rfl⟩
theorem rdTup (d : ByteArray) (a : Int) : ∃ c l m p Q H b N, RdTup c l m p Q H b N d a := by
  cases hR : readO d a with
  | bad n =>
    refine ⟨3, n, ⟨#[]⟩, ⟨#[]⟩, [], [], ⟨#[]⟩, 0, rqb_nil, by simp, by simp, ?_, ?_⟩
    · intro w e w' h
      cases h with
      | bad n' h _ hb =>
        rw [hR] at h; cases h
        exact ⟨none, 0, none, 0, rfl, hps_none _, hps_none _, hb⟩
      | short h => rw [hR] at h; cases h
      | ok m p Q H b left h => rw [hR] at h; cases h
    · intro w e w' h
      cases h with
      | bad n' h _ hb =>
        rw [hR] at h; cases h
        exact ⟨none, 0, none, 0, rfl, own_none _ _, own_none _ _, (fun g h => by cases h), hb⟩
      | short h => rw [hR] at h; cases h
      | ok m p Q H b left h => rw [hR] at h; cases h
  | short =>
    refine ⟨2, 0, ⟨#[]⟩, ⟨#[]⟩, [], [], ⟨#[]⟩, 0, rqb_nil, by simp, by simp, ?_, ?_⟩
    · intro w e w' h
      cases h with
      | short h _ hb => exact ⟨none, 0, none, 0, rfl, hps_none _, hps_none _, hb⟩
      | bad n' h => rw [hR] at h; cases h
      | ok m p Q H b left h => rw [hR] at h; cases h
    · intro w e w' h
      cases h with
      | short h _ hb => exact ⟨none, 0, none, 0, rfl, own_none _ _, own_none _ _, (fun g h => by cases h), hb⟩
      | bad n' h => rw [hR] at h; cases h
      | ok m p Q H b left h => rw [hR] at h; cases h
  | ok m p Q H b left =>
    obtain ⟨⟨p1, ⟨_, p2, _⟩, p3, p4, _, p5, p6⟩, hb9⟩ := readO_P hR
    simp only [mkRq] at p1 p2 p3 p4 p5 p6
    have l1 := p3.1
    have l2 := p4.1
    have m1 := p1.2.1
    refine ⟨0, 0, m, p, Q, H, b, a + ((min (d.size - a.toNat) 400000 - left : Nat) : Int), fun a1 c1 a2 c2 => ⟨by dsimp only; omega, by dsimp only; omega, ⟨by dsimp only; omega, fun i hi => ?_⟩, ⟨by dsimp only; omega, fun i hi => ?_⟩, by dsimp only; omega⟩, by omega, by omega, ?_, ?_⟩
    · obtain ⟨_, x1, x2⟩ := p5 i hi
      dsimp only
      exact ⟨by omega, by omega⟩
    · obtain ⟨⟨_, x1, _⟩, x2, _⟩ := p6 i hi
      dsimp only
      exact ⟨by omega, by omega⟩
    · intro w e w' h
      cases h with
      | short h => rw [hR] at h; cases h
      | bad n' h => rw [hR] at h; cases h
      | ok m' p' Q' H' b' left' h a1 c1 a2 c2 N hN _ hb h1 h2 =>
        rw [hR] at h; cases h
        subst hN
        exact ⟨a1, c1, a2, c2, rfl, h1, h2, hb⟩
    · intro w e w' h
      cases h with
      | short h => rw [hR] at h; cases h
      | bad n' h => rw [hR] at h; cases h
      | ok m' p' Q' H' b' left' h v1 v2 N hN _ hb o1 o2 dj =>
        rw [hR] at h; cases h
        subst hN
        obtain ⟨a1, c1, rfl, _⟩ := o1.hps
        obtain ⟨a2, c2, rfl, _⟩ := o2.hps
        exact ⟨a1, c1, a2, c2, rfl, o1, o2, dj, hb⟩
theorem Fr2.below {w wa wb : World} {v1 v2 : Value} {B : Nat} (h : Fr2 wa wb v1 v2) (hb : Below B w wa) (h1 : ∀ g, v1.ownBlock = some g → B ≤ g) (h2 : ∀ g, v2.ownBlock = some g → B ≤ g) (hB : B ≤ wa.heap.size) : Below B w wb :=
  ⟨h.os.trans hb.os, h.tape.trans hb.tape, h.output.trans hb.output, Nat.le_trans hb.size h.size, fun k hk => (h.block k (by omega) (fun e => by have := h1 k e; omega) (fun e => by have := h2 k e; omega)).trans (hb.block k hk)⟩
theorem OwnHp.is {w : World} {base : Nat} {a : Option Addr} {n c : Nat} {L : List Hp} (h : OwnHp w base (.slice a n c) L) (hn : n = L.length) : Hps w a n c (hAt L) := by subst hn; exact hps_of h rfl
set_option maxRecDepth 20000 in
set_option maxHeartbeats 4000000 in
theorem fnExactReadRequest_of (d : ByteArray) (hd : d.size ≤ maxLen) (a : Int) (wa : (Lit.int .i64 a).wf = true) (w : World) (hv : RdV w) :
    Calls Tryz.prog 4 #[.string d, .int .i64 a] w fun e w' => e = .returned (.bool true) ∧ Below w.heap.size w w' := by
  unfold maxLen at hd
  by_cases gd : d.size ≤ 1048576
  case neg =>
    go_enter Tryz.func4, Tryz.ntmps4
    go_wp2
    go_ret
    exact ⟨rfl, Below.refl _ _⟩
  have KS := fun wx => hid (sRead d gd a (by have := bounds_i64 wa; omega) wx)
  have KI := fun wx (hb : Below w.heap.size w wx) => hid (iRead d a wa gd wx (hv.below hb))
  obtain ⟨c, l, m, p, Q, H, b, N, T⟩ := rdTup d a
  obtain ⟨q1, hq1⟩ : ∃ q, q = Q.length := ⟨_, rfl⟩
  obtain ⟨q2, hq2⟩ : ∃ q, q = H.length := ⟨_, rfl⟩
  have TS := hid T.s
  have TI := hid T.i
  have TB := hid T.bound
  have HL : Hid (q1 = Q.length ∧ q2 = H.length ∧ Q.length ≤ 100 ∧ H.length ≤ 100) := ⟨hq1, hq2, T.n1, T.n2⟩
  rw [← hq1, ← hq2] at TS TI TB
  obtain ⟨k2, hk2⟩ : ∃ k : Nat, k = 1 + 2 * q1 + 2 * q2 := ⟨_, rfl⟩
  have KE := fun wx a1 c1 a2 c2 a1' c1' a2' c2' (h1 : Hps wx a1 q1 c1 (hAt Q)) (h2 : Hps wx a2 q2 c2 (hAt H)) (h1' : Hps wx a1' q1 c1' (hAt Q)) (h2' : Hps wx a2' q2 c2' (hAt H)) => hid (eqRd c l m p a1 q1 c1 a2 q2 c2 b N wx (hAt Q) (hAt H) a1' c1' a2' c2' (TB.out a1 c1 a2 c2) h1 h2 h1' h2')
  have KM : ∀ wx base a1 c1 a2 c2 (h1 : OwnHp wx base (.slice a1 q1 c1) Q) (h2 : OwnHp wx base (.slice a2 q2 c2) H) (dj : ∀ g, (Value.slice a1 q1 c1).ownBlock = some g → (Value.slice a2 q2 c2).ownBlock ≠ some g), Hid (Calls Tryz.prog 17 #[.agg #[.int .i64 c, .int .i64 l, .string m, .string p, .slice a1 q1 c1, .slice a2 q2 c2, .string b, .int .i64 N], .int .i64 1] wx fun e w' => e = .returned (.int .i64 (k2 : Int)) ∧ Mk2 w' a1 q1 a2 q2 1 ∧ Fr2 wx w' (.slice a1 q1 c1) (.slice a2 q2 c2)) := by
    intro wx base a1 c1 a2 c2 h1 h2 dj
    subst hk2
    subst hq1
    subst hq2
    exact markRd c l m p a1 c1 a2 c2 b N wx base 1 Q H T.n1 T.n2 (by omega) (by omega) h1 h2 dj
  have KH : ∀ wx a1 c1 a2 c2 (h : Mk2 wx a1 q1 a2 q2 1), Hid (Calls Tryz.prog 18 #[.agg #[.int .i64 c, .int .i64 l, .string m, .string p, .slice a1 q1 c1, .slice a2 q2 c2, .string b, .int .i64 N], .int .i64 1] wx fun e w' => e = .returned (.int .i64 (k2 : Int)) ∧ Below wx.heap.size wx w') := by
    intro wx a1 c1 a2 c2 h
    subst hk2
    exact heldRd c l m p a1 q1 c1 a2 q2 c2 b N wx 1 (by omega) (by omega) (by have := T.n1; omega) (by have := T.n2; omega) h
  have k2n : ¬ (k2 : Int) < 0 := by omega
  have k2e : ((k2 : Int) != (k2 : Int)) = false := by simp
  clear hv T hq1 hq2 hk2 TB
  go_enter Tryz.func4, Tryz.ntmps4
  go_wp2_with fail
  refine (KS _).out.mono ?_
  intro e w1 hans
  obtain ⟨s1, d1, s2, d2, rfl, g1, g2, hb1⟩ := TS.out _ _ _ hans
  clear hans KS TS
  obtain ⟨X, hX⟩ : ∃ X, X = w1.heap.size := ⟨_, rfl⟩
  obtain ⟨W2, hW2⟩ : ∃ W, W = w1.alloc (.cells #[.int .i64 c, .int .i64 l, .string m, .string p, .slice s1 q1 d1, .slice s2 q2 d2, .string b, .int .i64 N] 35) := ⟨_, rfl⟩
  have RX : Hid (RowAt W2 X 35 #[.int .i64 c, .int .i64 l, .string m, .string p, .slice s1 q1 d1, .slice s2 q2 d2, .string b, .int .i64 N]) := by rw [hW2, hX]; exact RowAt.new _ _ _
  have B2 : Hid (Below w.heap.size w W2) := by rw [hW2]; exact hb1.alloc hb1.size _
  have a2' : Below w1.heap.size w1 W2 := by rw [hW2]; exact (Below.refl _ _).alloc (Nat.le_refl _) _
  have GS : Hid (Hps W2 s1 q1 d1 (hAt Q) ∧ Hps W2 s2 q2 d2 (hAt H)) := ⟨g1.below a2', g2.below a2'⟩
  clear g1 g2 hb1 a2'
  go_upto_region 4 with fail
  rw [← hW2, ← hX]
  clear hW2 hX
  go_wp2_with fail
  refine (KI _ B2.out).out.mono ?_
  intro e w3 hans
  obtain ⟨a1, c1, a2, c2, rfl, o1, o2, dj, hb3⟩ := TI.out _ _ _ hans
  clear hans
  obtain ⟨BB, hBB⟩ : ∃ B, B = W2.heap.size := ⟨_, rfl⟩
  rw [← hBB] at o1 o2
  obtain ⟨Y, hY⟩ : ∃ Y, Y = w3.heap.size := ⟨_, rfl⟩
  obtain ⟨W4, hW4⟩ : ∃ W, W = w3.alloc (.cells #[.int .i64 c, .int .i64 l, .string m, .string p, .slice a1 q1 c1, .slice a2 q2 c2, .string b, .int .i64 N] 35) := ⟨_, rfl⟩
  have y4 : Below w3.heap.size w3 W4 := by rw [hW4]; exact (Below.refl _ _).alloc (Nat.le_refl _) _
  have b24 : Below W2.heap.size W2 W4 := hb3.trans (y4.mono hb3.size)
  have RX4 : Hid (RowAt W4 X 35 #[.int .i64 c, .int .i64 l, .string m, .string p, .slice s1 q1 d1, .slice s2 q2 d2, .string b, .int .i64 N]) := RX.out.below b24 RX.out.lt
  have RY4 : Hid (RowAt W4 Y 35 #[.int .i64 c, .int .i64 l, .string m, .string p, .slice a1 q1 c1, .slice a2 q2 c2, .string b, .int .i64 N]) := by rw [hW4, hY]; exact RowAt.new _ _ _
  have B4 : Hid (Below w.heap.size w W4) := B2.out.trans (b24.mono B2.out.size)
  have GS4 : Hid (Hps W4 s1 q1 d1 (hAt Q) ∧ Hps W4 s2 q2 d2 (hAt H)) := ⟨GS.out.1.below b24, GS.out.2.below b24⟩
  have OI4 : Hid (OwnHp W4 BB (.slice a1 q1 c1) Q ∧ OwnHp W4 BB (.slice a2 q2 c2) H) := ⟨OwnHp.next y4 o1, OwnHp.next y4 o2⟩
  have DJ := hid dj
  have OL : Hid ((∀ g, (Value.slice a1 q1 c1).ownBlock = some g → BB ≤ g ∧ g < Y) ∧ ∀ g, (Value.slice a2 q2 c2).ownBlock = some g → BB ≤ g ∧ g < Y) := by
    rw [hY]
    exact ⟨fun g e => World.ownsRow.lt o1 g e, fun g e => World.ownsRow.lt o2 g e⟩
  have XL : Hid (X < BB ∧ BB ≤ W4.heap.size ∧ w.heap.size ≤ BB) := ⟨by rw [hBB]; exact RX.out.lt, by rw [hBB]; exact b24.size, by rw [hBB]; exact B2.out.size⟩
  have GB : Hid (Hps W2 s1 q1 d1 (hAt Q) ∧ Hps W2 s2 q2 d2 (hAt H) ∧ Below BB W2 W4 ∧ BB = W2.heap.size ∧ RowAt W2 X 35 #[.int .i64 c, .int .i64 l, .string m, .string p, .slice s1 q1 d1, .slice s2 q2 d2, .string b, .int .i64 N] ∧ Below w.heap.size w W2) := ⟨GS.out.1, GS.out.2, by rw [hBB]; exact b24, hBB, RX.out, B2.out⟩
  clear o1 o2 dj hb3 y4 b24 GS RX B2 hBB
  have x0 : W4.cell? ⟨X, 0, none⟩ = some (.int .i64 c) := RX4.out.cell 0
  have x1 : W4.cell? ⟨X, 1, none⟩ = some (.int .i64 l) := RX4.out.cell 1
  have x2 : W4.cell? ⟨X, 2, none⟩ = some (.string m) := RX4.out.cell 2
  have x3 : W4.cell? ⟨X, 3, none⟩ = some (.string p) := RX4.out.cell 3
  have x4 : W4.cell? ⟨X, 4, none⟩ = some (.slice s1 q1 d1) := RX4.out.cell 4
  have x5 : W4.cell? ⟨X, 5, none⟩ = some (.slice s2 q2 d2) := RX4.out.cell 5
  have x6 : W4.cell? ⟨X, 6, none⟩ = some (.string b) := RX4.out.cell 6
  have x7 : W4.cell? ⟨X, 7, none⟩ = some (.int .i64 N) := RX4.out.cell 7
  have y0 : W4.cell? ⟨Y, 0, none⟩ = some (.int .i64 c) := RY4.out.cell 0
  have y1 : W4.cell? ⟨Y, 1, none⟩ = some (.int .i64 l) := RY4.out.cell 1
  have y2 : W4.cell? ⟨Y, 2, none⟩ = some (.string m) := RY4.out.cell 2
  have y3 : W4.cell? ⟨Y, 3, none⟩ = some (.string p) := RY4.out.cell 3
  have y4 : W4.cell? ⟨Y, 4, none⟩ = some (.slice a1 q1 c1) := RY4.out.cell 4
  have y5 : W4.cell? ⟨Y, 5, none⟩ = some (.slice a2 q2 c2) := RY4.out.cell 5
  have y6 : W4.cell? ⟨Y, 6, none⟩ = some (.string b) := RY4.out.cell 6
  have y7 : W4.cell? ⟨Y, 7, none⟩ = some (.int .i64 N) := RY4.out.cell 7
  go_upto_region 5 with fail
  rw [← hW4, ← hY]
  clear hW4 hY
  go_wp2_with fail
  refine (KE _ a1 c1 a2 c2 s1 d1 s2 d2 (OwnHp.is OI4.out.1 HL.out.1) (OwnHp.is OI4.out.2 HL.out.2.1) GS4.out.1 GS4.out.2).out.mono ?_
  rintro e w5 ⟨rfl, hb5⟩
  clear x0 x1 x2 x3 x4 x5 x6 x7
  clear y0 y1 y2 y3 y4 y5 y6 y7
  have RY5 := hid (RY4.out.below hb5 RY4.out.lt)
  have OI5 : Hid (OwnHp w5 BB (.slice a1 q1 c1) Q ∧ OwnHp w5 BB (.slice a2 q2 c2) H) := ⟨OwnHp.next hb5 OI4.out.1, OwnHp.next hb5 OI4.out.2⟩
  have BB5 : Hid (Below BB W2 w5 ∧ BB ≤ w5.heap.size) := ⟨GB.out.2.2.1.trans (hb5.mono XL.out.2.1), Nat.le_trans XL.out.2.1 hb5.size⟩
  clear hb5 RX4 RY4 B4 GS4 OI4
  have y0 : w5.cell? ⟨Y, 0, none⟩ = some (.int .i64 c) := RY5.out.cell 0
  have y1 : w5.cell? ⟨Y, 1, none⟩ = some (.int .i64 l) := RY5.out.cell 1
  have y2 : w5.cell? ⟨Y, 2, none⟩ = some (.string m) := RY5.out.cell 2
  have y3 : w5.cell? ⟨Y, 3, none⟩ = some (.string p) := RY5.out.cell 3
  have y4 : w5.cell? ⟨Y, 4, none⟩ = some (.slice a1 q1 c1) := RY5.out.cell 4
  have y5 : w5.cell? ⟨Y, 5, none⟩ = some (.slice a2 q2 c2) := RY5.out.cell 5
  have y6 : w5.cell? ⟨Y, 6, none⟩ = some (.string b) := RY5.out.cell 6
  have y7 : w5.cell? ⟨Y, 7, none⟩ = some (.int .i64 N) := RY5.out.cell 7
  go_wp2_with fail
  refine (KM _ BB a1 c1 a2 c2 OI5.out.1 OI5.out.2 DJ.out).out.mono ?_
  rintro e w6 ⟨rfl, hm6, hf6⟩
  clear y0 y1 y2 y3 y4 y5 y6 y7
  have RY6 : Hid (RowAt w6 Y 35 #[.int .i64 c, .int .i64 l, .string m, .string p, .slice a1 q1 c1, .slice a2 q2 c2, .string b, .int .i64 N]) := (hf6.block _ RY5.out.lt (fun e => by have := OL.out.1 _ e; omega) (fun e => by have := OL.out.2 _ e; omega)).trans RY5.out
  have BB6 : Hid (Below BB W2 w6 ∧ BB ≤ w6.heap.size) := ⟨hf6.below BB5.out.1 (fun g e => (OL.out.1 g e).1) (fun g e => (OL.out.2 g e).1) BB5.out.2, Nat.le_trans BB5.out.2 hf6.size⟩
  have M6 := hid hm6
  clear hm6 hf6 RY5 OI5 BB5
  have y0 : w6.cell? ⟨Y, 0, none⟩ = some (.int .i64 c) := RY6.out.cell 0
  have y1 : w6.cell? ⟨Y, 1, none⟩ = some (.int .i64 l) := RY6.out.cell 1
  have y2 : w6.cell? ⟨Y, 2, none⟩ = some (.string m) := RY6.out.cell 2
  have y3 : w6.cell? ⟨Y, 3, none⟩ = some (.string p) := RY6.out.cell 3
  have y4 : w6.cell? ⟨Y, 4, none⟩ = some (.slice a1 q1 c1) := RY6.out.cell 4
  have y5 : w6.cell? ⟨Y, 5, none⟩ = some (.slice a2 q2 c2) := RY6.out.cell 5
  have y6 : w6.cell? ⟨Y, 6, none⟩ = some (.string b) := RY6.out.cell 6
  have y7 : w6.cell? ⟨Y, 7, none⟩ = some (.int .i64 N) := RY6.out.cell 7
  go_wp2_with fail
  refine (KH _ a1 c1 a2 c2 M6.out).out.mono ?_
  rintro e w7 ⟨rfl, hb7⟩
  clear y0 y1 y2 y3 y4 y5 y6 y7
  have RY7 := hid (RY6.out.below hb7 RY6.out.lt)
  have M7 := hid (M6.out.below hb7)
  have BB7 : Hid (Below BB W2 w7 ∧ BB ≤ w7.heap.size) := ⟨BB6.out.1.trans (hb7.mono BB6.out.2), Nat.le_trans BB6.out.2 hb7.size⟩
  have B7 : Hid (Below w.heap.size w w7) := GB.out.2.2.2.2.2.trans (BB7.out.1.mono XL.out.2.2)
  clear hb7 RY6 M6 BB6
  go_wp2_with fail
  refine (KI _ B7.out).out.mono ?_
  intro e w8 hans
  obtain ⟨b1, e1, b2, e2, rfl, o1, o2, _, hb8⟩ := TI.out _ _ _ hans
  clear hans KI TI
  obtain ⟨Z, hZ⟩ : ∃ Z, Z = w8.heap.size := ⟨_, rfl⟩
  obtain ⟨W9, hW9⟩ : ∃ W, W = w8.alloc (.cells #[.int .i64 c, .int .i64 l, .string m, .string p, .slice b1 q1 e1, .slice b2 q2 e2, .string b, .int .i64 N] 35) := ⟨_, rfl⟩
  have z9 : Below w8.heap.size w8 W9 := by rw [hW9]; exact (Below.refl _ _).alloc (Nat.le_refl _) _
  have b79 : Below w7.heap.size w7 W9 := hb8.trans (z9.mono hb8.size)
  have RZ9 : Hid (RowAt W9 Z 35 #[.int .i64 c, .int .i64 l, .string m, .string p, .slice b1 q1 e1, .slice b2 q2 e2, .string b, .int .i64 N]) := by rw [hW9, hZ]; exact RowAt.new _ _ _
  have RY9 : Hid (RowAt W9 Y 35 #[.int .i64 c, .int .i64 l, .string m, .string p, .slice a1 q1 c1, .slice a2 q2 c2, .string b, .int .i64 N]) := RY7.out.below b79 RY7.out.lt
  have BB9 : Below BB W2 W9 := BB7.out.1.trans (b79.mono BB7.out.2)
  have RX9 : Hid (RowAt W9 X 35 #[.int .i64 c, .int .i64 l, .string m, .string p, .slice s1 q1 d1, .slice s2 q2 d2, .string b, .int .i64 N]) := by
    have h5 := GB.out.2.2.2.2.1
    exact h5.below (by rw [← GB.out.2.2.2.1]; exact BB9) h5.lt
  have GS9 : Hid (Hps W9 s1 q1 d1 (hAt Q) ∧ Hps W9 s2 q2 d2 (hAt H)) := ⟨GB.out.1.below (by rw [← GB.out.2.2.2.1]; exact BB9), GB.out.2.1.below (by rw [← GB.out.2.2.2.1]; exact BB9)⟩
  have OJ9 : Hid (Hps W9 b1 q1 e1 (hAt Q) ∧ Hps W9 b2 q2 e2 (hAt H)) := ⟨(OwnHp.next z9 o1).is HL.out.1, (OwnHp.next z9 o2).is HL.out.2.1⟩
  have M9 := hid (M7.out.below b79)
  have B9 : Hid (Below w.heap.size w W9) := B7.out.trans (b79.mono B7.out.size)
  clear o1 o2 hb8 z9 b79 RY7 BB9 BB7 M7 B7 GB
  have x0 : W9.cell? ⟨X, 0, none⟩ = some (.int .i64 c) := RX9.out.cell 0
  have x1 : W9.cell? ⟨X, 1, none⟩ = some (.int .i64 l) := RX9.out.cell 1
  have x2 : W9.cell? ⟨X, 2, none⟩ = some (.string m) := RX9.out.cell 2
  have x3 : W9.cell? ⟨X, 3, none⟩ = some (.string p) := RX9.out.cell 3
  have x4 : W9.cell? ⟨X, 4, none⟩ = some (.slice s1 q1 d1) := RX9.out.cell 4
  have x5 : W9.cell? ⟨X, 5, none⟩ = some (.slice s2 q2 d2) := RX9.out.cell 5
  have x6 : W9.cell? ⟨X, 6, none⟩ = some (.string b) := RX9.out.cell 6
  have x7 : W9.cell? ⟨X, 7, none⟩ = some (.int .i64 N) := RX9.out.cell 7
  have z0 : W9.cell? ⟨Z, 0, none⟩ = some (.int .i64 c) := RZ9.out.cell 0
  have z1 : W9.cell? ⟨Z, 1, none⟩ = some (.int .i64 l) := RZ9.out.cell 1
  have z2 : W9.cell? ⟨Z, 2, none⟩ = some (.string m) := RZ9.out.cell 2
  have z3 : W9.cell? ⟨Z, 3, none⟩ = some (.string p) := RZ9.out.cell 3
  have z4 : W9.cell? ⟨Z, 4, none⟩ = some (.slice b1 q1 e1) := RZ9.out.cell 4
  have z5 : W9.cell? ⟨Z, 5, none⟩ = some (.slice b2 q2 e2) := RZ9.out.cell 5
  have z6 : W9.cell? ⟨Z, 6, none⟩ = some (.string b) := RZ9.out.cell 6
  have z7 : W9.cell? ⟨Z, 7, none⟩ = some (.int .i64 N) := RZ9.out.cell 7
  go_upto_region 16 with fail
  rw [← hW9, ← hZ]
  clear hW9 hZ
  go_wp2_with fail
  refine (KE _ b1 e1 b2 e2 s1 d1 s2 d2 OJ9.out.1 OJ9.out.2 GS9.out.1 GS9.out.2).out.mono ?_
  rintro e w10 ⟨rfl, hb10⟩
  clear x0 x1 x2 x3 x4 x5 x6 x7
  clear z0 z1 z2 z3 z4 z5 z6 z7
  have RY10 := hid (RY9.out.below hb10 RY9.out.lt)
  have M10 := hid (M9.out.below hb10)
  have B10 : Hid (Below w.heap.size w w10) := B9.out.trans (hb10.mono B9.out.size)
  clear hb10 RY9 M9 B9 RX9 RZ9 OJ9 GS9
  have y0 : w10.cell? ⟨Y, 0, none⟩ = some (.int .i64 c) := RY10.out.cell 0
  have y1 : w10.cell? ⟨Y, 1, none⟩ = some (.int .i64 l) := RY10.out.cell 1
  have y2 : w10.cell? ⟨Y, 2, none⟩ = some (.string m) := RY10.out.cell 2
  have y3 : w10.cell? ⟨Y, 3, none⟩ = some (.string p) := RY10.out.cell 3
  have y4 : w10.cell? ⟨Y, 4, none⟩ = some (.slice a1 q1 c1) := RY10.out.cell 4
  have y5 : w10.cell? ⟨Y, 5, none⟩ = some (.slice a2 q2 c2) := RY10.out.cell 5
  have y6 : w10.cell? ⟨Y, 6, none⟩ = some (.string b) := RY10.out.cell 6
  have y7 : w10.cell? ⟨Y, 7, none⟩ = some (.int .i64 N) := RY10.out.cell 7
  go_wp2_with fail
  refine (KH _ a1 c1 a2 c2 M10.out).out.mono ?_
  rintro e w11 ⟨rfl, hb11⟩
  clear y0 y1 y2 y3 y4 y5 y6 y7
  have B11 : Hid (Below w.heap.size w w11) := B10.out.trans (hb11.mono B10.out.size)
  clear hb11
  go_wp2
  go_ret
  exact ⟨rfl, B11.out⟩
end Go.Proofs.YtnchjcaclfcaiaaGreatDoor
namespace Go.Proofs.YtnchjcaclfcaiaaGreatDoor
open Go.RowKit
theorem fnExactReadRequest_walk {w : World} (hv : RdV w) (d : ByteArray) (hd : d.size ≤ maxLen) (a : Int) (wa : (Lit.int .i64 a).wf = true) :
    Calls Tryz.prog 4 #[.string d, .int .i64 a] w fun e w' => e = .returned (.bool true) ∧ Below w.heap.size w w' :=
  fnExactReadRequest_of d hd a wa w hv
end Go.Proofs.YtnchjcaclfcaiaaGreatDoor
