import Derived.Test.YtgoplcjjoiiagaaGreatDoorF1
import Derived.Test.YtgoplcjjoiiagaaGreatDoorW1
import Derived.Test.YtgoplcjjoiiagaaGreatDoorD1
namespace Go.Proofs.YtgoplcjjoiiagaaGreatDoor
open Go.RowKit
/-! FnRequests, out of a contract of the draw of requests. -/
set_option maxRecDepth 20000 in
set_option maxHeartbeats 1000000 in
theorem drawEsc_all (w : World) (a : Option Addr) (len cap : Nat) (hc : CodeOk w a len) (hlc : len ≤ cap) :
    Calls Tryz.prog 8 #[.slice a len cap] w fun e w' => (∃ t : ByteArray, e = .returned (.string t) ∧ t.size ≤ 300) ∧ Below w.heap.size w w' := by
  go_enter Tryz.func8, Tryz.ntmps8
  go_wp2_with fail
  refine (source_all w a len cap hc hlc).mono ?_
  rintro e w1 ⟨rfl, hs, hb⟩
  go_wp2_with fail
  refine (long_all w _ w.heap.size a len cap 0 hs (by omega)).mono ?_
  rintro e w2 ⟨⟨t, rfl, ht⟩, _, hg2⟩
  have B2 := hid (below_src hb hg2)
  clear hs hb hg2
  go_wp2
  go_ret
  exact ⟨⟨_, rfl, ht⟩, B2.out⟩
theorem wfRq (n : Int) (h0 : -9223372036854775808 ≤ n) (h1 : n ≤ 9223372036854775807) : (Lit.int .i64 n).wf = true := by
  have a : IntKind.i64.min = -9223372036854775808 := rfl
  have b : IntKind.i64.max = 9223372036854775807 := rfl
  show (decide (IntKind.i64.min ≤ n) && decide (n ≤ IntKind.i64.max)) = true
  rw [a, b]
  simp
  omega
/-- what a draw of a request gives -/
def DrRq (w : World) (e : Ending) (w' : World) : Prop := ∃ (m p : ByteArray) (Q H : List Hp) (b : ByteArray) (a1 : Option Addr) (c1 : Nat) (a2 : Option Addr) (c2 : Nat), e = .returned (.agg #[.string m, .string p, .slice a1 Q.length c1, .slice a2 H.length c2, .string b]) ∧ Hps w' a1 Q.length c1 (hAt Q) ∧ Hps w' a2 H.length c2 (hAt H) ∧ RqB ⟨m, p, ⟨a1, Q.length, c1, hAt Q⟩, ⟨a2, H.length, c2, hAt H⟩, b⟩ 1048576 ∧ Below w.heap.size w w'
theorem ba3 (e t : ByteArray) (T : List UInt8) (h : t = ofL T) : e ++ t ++ e = ofL (e.data.toList ++ T ++ e.data.toList) := by
  subst h
  apply ba_extL
  rw [ofL_l]
  simp [ByteArray.data_append, ofL]
theorem ba_take (t : ByteArray) (T : List UInt8) (h : t = ofL T) (k : Nat) : t.extract 0 k = ofL (T.take k) := by
  subst h
  apply ba_extL
  rw [ofL_l]
  simp [ByteArray.data_extract, ofL]
theorem un_back (e : ByteArray) (h : e.size ≤ 300) : unO (ofL (escV e)) = .agg #[.bool true, .string e, .int .i64 ((escV e).length : Int)] := by
  have hl := escV_len e
  have := unV_esc (ofL (escV e)) e.data.toList (by rw [ofL_l]; unfold escV; rw [if_pos (by omega)]) (by rw [ofL_size]; omega)
  rw [unO_some this, ofL_size]
theorem rd_back {m p : ByteArray} {Q H : List Hp} {b : ByteArray} (hr : rqP (mkRq m p Q H b)) (e t : ByteArray) (ht : t = ofL (wrqL (mkRq m p Q H b))) (he : e.size ≤ 300) (w : World) (hv : RdV w) :
    Calls Tryz.prog 12 #[.string (e ++ t ++ e), .int .i64 (e.size : Int)] w fun x w' => ∃ u1 k1 u2 k2, x = .returned (.agg #[.int .i64 0, .int .i64 0, .string m, .string p, .slice u1 Q.length k1, .slice u2 H.length k2, .string b, .int .i64 ((e.size : Int) + (t.size : Int))]) ∧ Hps w' u1 Q.length k1 (hAt Q) ∧ Hps w' u2 H.length k2 (hAt H) ∧ Below w.heap.size w w' := by
  have hl := (wrq_len hr).1
  have hts : t.size = (wrqL (mkRq m p Q H b)).length := by rw [ht, ofL_size]
  have hsz : (e ++ t ++ e).size = e.size + t.size + e.size := by rw [ByteArray.size_append, ByteArray.size_append]
  refine (iRead (e ++ t ++ e) (e.size : Int) (wfRq _ (by omega) (by omega)) (by omega) w hv).mono ?_
  intro x w' hans
  obtain ⟨left, h1, h2⟩ := readO_wr hr e.data.toList e.data.toList
  rw [← ba3 e t _ ht, baLen] at h1
  cases hans with
  | bad n h => rw [h1] at h; cases h
  | short h => rw [h1] at h; cases h
  | ok m' p' Q' H' b' left' h v1 v2 N hN _ hb o1 o2 dj =>
    rw [h1] at h
    cases h
    obtain ⟨u1, k1, rfl, g1⟩ := o1.hps
    obtain ⟨u2, k2, rfl, g2⟩ := o2.hps
    refine ⟨u1, k1, u2, k2, ?_, g1, g2, hb⟩
    have hN2 : N = (e.size : Int) + (t.size : Int) := by
      rw [hN, hts, ← h2, hsz, hts]
      simp only [List.length_append, baLen, Int.toNat_natCast]
    rw [hN2]
theorem rd_cut {m p : ByteArray} {Q H : List Hp} {b : ByteArray} (hr : rqP (mkRq m p Q H b)) (t : ByteArray) (ht : t = ofL (wrqL (mkRq m p Q H b))) (k : Nat) (hk : k < t.size) (w : World) (hv : RdV w) :
    Calls Tryz.prog 12 #[.string (t.extract 0 k), .int .i64 0] w fun x w' => x = .returned (.agg #[.int .i64 2, .int .i64 0, .string ⟨#[]⟩, .string ⟨#[]⟩, .slice none 0 0, .slice none 0 0, .string ⟨#[]⟩, .int .i64 0]) ∧ Below w.heap.size w w' := by
  have hl := (wrq_len hr).1
  have hts : t.size = (wrqL (mkRq m p Q H b)).length := by rw [ht, ofL_size]
  have e := ba_take t _ ht k
  rw [e]
  refine (iRead _ 0 (by decide) (by rw [ofL_size, List.length_take]; omega) w hv).mono ?_
  intro x w' hans
  have h1 := readO_cut hr k (by omega)
  cases hans with
  | bad n h => rw [h1] at h; cases h
  | short h _ hb => exact ⟨rfl, hb⟩
  | ok m' p' Q' H' b' left' h => rw [h1] at h; cases h
set_option maxRecDepth 20000 in
set_option maxHeartbeats 4000000 in
theorem fnRequests_core (HD : ∀ (w : World) (a : Option Addr) (len cap : Nat), CodeOk w a len → len ≤ cap → Calls Tryz.prog 5 #[.slice a len cap] w fun e w' => DrRq w e w')
    {w : World} (hv : RdV w) (a : Option Addr) (len cap : Nat) (hc : CodeOk w a len) (hlc : len ≤ cap) (a' : Option Addr) (len' cap' : Nat) (hc' : CodeOk w a' len') (hlc' : len' ≤ cap') :
    Calls Tryz.prog 3 #[.slice a len cap, .slice a' len' cap'] w fun e w' => e = .returned (.bool true) ∧ Below w.heap.size w w' := by
  have l0 := hc.1
  have l1 := hc'.1
  have d0 : decide ((1048576 : Int) < (len : Int)) = false := by simp; omega
  have d1 : decide ((1048576 : Int) < (len' : Int)) = false := by simp; omega
  have DR := hid (HD w a len cap hc hlc)
  have DE := fun wx (hb : Below w.heap.size w wx) => hid (drawEsc_all wx a' len' cap' (hc'.below hb) hlc')
  have KA := fun wx (hb : Below w.heap.size w wx) => hid (And.intro (lwAt_all wx a' len' cap' 0 (hc'.below hb) (by omega)) (lwAt_all wx a' len' cap' 1 (hc'.below hb) (by omega)))
  have HV := hid hv
  clear HD hc hc' hlc hlc' hv l0 l1
  go_enter Tryz.func3, Tryz.ntmps3
  go_wp2_with fail
  refine DR.out.mono ?_
  rintro e w1 ⟨m, p, Q, H, b, a1, c1, a2, c2, rfl, g1, g2, hB, hb1⟩
  obtain ⟨n1, hn1⟩ : ∃ n, n = Q.length := ⟨_, rfl⟩
  obtain ⟨n2, hn2⟩ : ∃ n, n = H.length := ⟨_, rfl⟩
  have NB : Hid (n1 ≤ 1048576 ∧ n2 ≤ 1048576) := by rw [hn1, hn2]; exact ⟨hB.qs.1, hB.hs.1⟩
  obtain ⟨t, ht⟩ : ∃ t, t = ofL (wrqL (mkRq m p Q H b)) := ⟨_, rfl⟩
  have HT := hid ht
  have KW := fun wx (hb : Below w.heap.size w wx) h1 h2 => hid (iWrq ⟨m, p, ⟨a1, Q.length, c1, hAt Q⟩, ⟨a2, H.length, c2, hAt H⟩, b⟩ hB wx (HV.out.below hb).tb ⟨h1, h2⟩)
  have KS := fun wx h1 h2 => hid (sWrq ⟨m, p, ⟨a1, Q.length, c1, hAt Q⟩, ⟨a2, H.length, c2, hAt H⟩, b⟩ hB wx ⟨h1, h2⟩)
  have KF := fun wx h1 h2 => hid (iRqF ⟨m, p, ⟨a1, Q.length, c1, hAt Q⟩, ⟨a2, H.length, c2, hAt H⟩, b⟩ hB wx ⟨h1, h2⟩)
  have eW : wrqL ⟨m, p, ⟨a1, Q.length, c1, hAt Q⟩, ⟨a2, H.length, c2, hAt H⟩, b⟩ = wrqL (mkRq m p Q H b) := rfl
  have eV : rqV ⟨m, p, ⟨a1, Q.length, c1, hAt Q⟩, ⟨a2, H.length, c2, hAt H⟩, b⟩ = rqV (mkRq m p Q H b) := rfl
  rw [eW, ← ht] at KW KS
  rw [eV] at KF
  dsimp only [Rq.v] at KW KS KF
  have RB := fun e' he wx (hb : Below w.heap.size w wx) (hr : rqP (mkRq m p Q H b)) => hid (rd_back hr e' t ht he wx (HV.out.below hb))
  have RC := fun k hk wx (hb : Below w.heap.size w wx) (hr : rqP (mkRq m p Q H b)) => hid (rd_cut hr t ht k hk wx (HV.out.below hb))
  have TZ : Hid ((¬ rqP (mkRq m p Q H b) → t = ⟨#[]⟩) ∧ (rqP (mkRq m p Q H b) → 1 ≤ t.size ∧ t.size ≤ 400000)) := by
    refine ⟨fun hr => ?_, fun hr => ?_⟩
    · rw [ht]; unfold wrqL; rw [pb_f hr]; rfl
    · rw [ht, ofL_size]; exact ⟨(wrq_len hr).2, (wrq_len hr).1⟩
  rw [← hn1] at g1 KW KS KF RB ⊢
  rw [← hn2] at g2 KW KS KF RB ⊢
  clear hn1 hn2 hB ht HT eW eV DR d0 d1
  obtain ⟨X, hX⟩ : ∃ X, X = w1.heap.size := ⟨_, rfl⟩
  obtain ⟨W2, hW2⟩ : ∃ W, W = w1.alloc (.cells #[.string m, .string p, .slice a1 n1 c1, .slice a2 n2 c2, .string b] 25) := ⟨_, rfl⟩
  have a2' : Below w1.heap.size w1 W2 := by rw [hW2]; exact (Below.refl _ _).alloc (Nat.le_refl _) _
  have RX : Hid (RowAt W2 X 25 #[.string m, .string p, .slice a1 n1 c1, .slice a2 n2 c2, .string b]) := by rw [hW2, hX]; exact RowAt.new _ _ _
  have B2 : Hid (Below w.heap.size w W2) := hb1.trans (a2'.mono hb1.size)
  have G2 : Hid (Hps W2 a1 n1 c1 (hAt Q) ∧ Hps W2 a2 n2 c2 (hAt H)) := ⟨g1.below a2', g2.below a2'⟩
  clear g1 g2 hb1 a2'
  have x0 : W2.cell? ⟨X, 0, none⟩ = some (.string m) := RX.out.cell 0
  have x1 : W2.cell? ⟨X, 1, none⟩ = some (.string p) := RX.out.cell 1
  have x2 : W2.cell? ⟨X, 2, none⟩ = some (.slice a1 n1 c1) := RX.out.cell 2
  have x3 : W2.cell? ⟨X, 3, none⟩ = some (.slice a2 n2 c2) := RX.out.cell 3
  have x4 : W2.cell? ⟨X, 4, none⟩ = some (.string b) := RX.out.cell 4
  go_upto_region 4 with fail
  rw [← hW2, ← hX]
  clear hW2 hX
  go_wp2_with fail
  refine (KW _ B2.out G2.out.1 G2.out.2).out.mono ?_
  rintro e w3 ⟨rfl, hb3⟩
  clear x0 x1 x2 x3 x4
  have RX3 := hid (RX.out.below hb3 RX.out.lt)
  have B3 := hid (B2.out.trans (hb3.mono B2.out.size))
  have G3 : Hid (Hps w3 a1 n1 c1 (hAt Q) ∧ Hps w3 a2 n2 c2 (hAt H)) := ⟨G2.out.1.below hb3, G2.out.2.below hb3⟩
  clear hb3 RX B2 G2
  have x0 : w3.cell? ⟨X, 0, none⟩ = some (.string m) := RX3.out.cell 0
  have x1 : w3.cell? ⟨X, 1, none⟩ = some (.string p) := RX3.out.cell 1
  have x2 : w3.cell? ⟨X, 2, none⟩ = some (.slice a1 n1 c1) := RX3.out.cell 2
  have x3 : w3.cell? ⟨X, 3, none⟩ = some (.slice a2 n2 c2) := RX3.out.cell 3
  have x4 : w3.cell? ⟨X, 4, none⟩ = some (.string b) := RX3.out.cell 4
  go_wp2_with fail
  refine (KS _ G3.out.1 G3.out.2).out.mono ?_
  rintro e w4 ⟨rfl, hb4⟩
  clear x0 x1 x2 x3 x4
  have RX4 := hid (RX3.out.below hb4 RX3.out.lt)
  have B4 := hid (B3.out.trans (hb4.mono B3.out.size))
  have G4 : Hid (Hps w4 a1 n1 c1 (hAt Q) ∧ Hps w4 a2 n2 c2 (hAt H)) := ⟨G3.out.1.below hb4, G3.out.2.below hb4⟩
  clear hb4 RX3 B3 G3
  go_wp2_with fail
  refine (DE _ B4.out).out.mono ?_
  rintro e w5 ⟨⟨ee, rfl, he⟩, hb5⟩
  have RX5 := hid (RX4.out.below hb5 RX4.out.lt)
  have B5 := hid (B4.out.trans (hb5.mono B4.out.size))
  have G5 : Hid (Hps w5 a1 n1 c1 (hAt Q) ∧ Hps w5 a2 n2 c2 (hAt H)) := ⟨G4.out.1.below hb5, G4.out.2.below hb5⟩
  clear hb5 RX4 B4 G4
  have KE := fun wx => hid (iEsc ee (by omega) wx)
  have KU := fun wx => hid (iUn (ofL (escV ee)) wx)
  rw [un_back ee he] at KU
  obtain ⟨ut, hut⟩ : ∃ u, u = ofL (escV ee) := ⟨_, rfl⟩
  rw [← hut] at KE KU
  clear hut
  generalize ((escV ee).length : Int) = ul at KU
  go_wp2_with fail
  refine (KE _).out.mono ?_
  rintro e w6 ⟨rfl, hb6⟩
  have RX6 := hid (RX5.out.below hb6 RX5.out.lt)
  have B6 := hid (B5.out.trans (hb6.mono B5.out.size))
  have G6 : Hid (Hps w6 a1 n1 c1 (hAt Q) ∧ Hps w6 a2 n2 c2 (hAt H)) := ⟨G5.out.1.below hb6, G5.out.2.below hb6⟩
  clear hb6 RX5 B5 G5
  go_wp2_with fail
  refine (KU _).out.mono ?_
  rintro e w7 ⟨rfl, hb7⟩
  have RX7 := hid (RX6.out.below hb7 RX6.out.lt)
  have B7 := hid (B6.out.trans (hb7.mono B6.out.size))
  have G7 : Hid (Hps w7 a1 n1 c1 (hAt Q) ∧ Hps w7 a2 n2 c2 (hAt H)) := ⟨G6.out.1.below hb7, G6.out.2.below hb7⟩
  clear hb7 RX6 B6 G6
  obtain ⟨Y, hY⟩ : ∃ Y, Y = w7.heap.size := ⟨_, rfl⟩
  obtain ⟨W8, hW8⟩ : ∃ W, W = w7.alloc (.cells #[.bool true, .string ee, .int .i64 ul] 30) := ⟨_, rfl⟩
  have hb8 : Below w7.heap.size w7 W8 := by rw [hW8]; exact (Below.refl _ _).alloc (Nat.le_refl _) _
  have RY : Hid (RowAt W8 Y 30 #[.bool true, .string ee, .int .i64 ul]) := by rw [hW8, hY]; exact RowAt.new _ _ _
  have RX8 := hid (RX7.out.below hb8 RX7.out.lt)
  have B8 := hid (B7.out.trans (hb8.mono B7.out.size))
  have G8 : Hid (Hps W8 a1 n1 c1 (hAt Q) ∧ Hps W8 a2 n2 c2 (hAt H)) := ⟨G7.out.1.below hb8, G7.out.2.below hb8⟩
  clear hb8 RX7 B7 G7
  have y0 : W8.cell? ⟨Y, 0, none⟩ = some (.bool true) := RY.out.cell 0
  have y1 : W8.cell? ⟨Y, 1, none⟩ = some (.string ee) := RY.out.cell 1
  have x0 : W8.cell? ⟨X, 0, none⟩ = some (.string m) := RX8.out.cell 0
  have x1 : W8.cell? ⟨X, 1, none⟩ = some (.string p) := RX8.out.cell 1
  have x2 : W8.cell? ⟨X, 2, none⟩ = some (.slice a1 n1 c1) := RX8.out.cell 2
  have x3 : W8.cell? ⟨X, 3, none⟩ = some (.slice a2 n2 c2) := RX8.out.cell 3
  have x4 : W8.cell? ⟨X, 4, none⟩ = some (.string b) := RX8.out.cell 4
  go_upto_region 9 with fail
  rw [← hW8, ← hY]
  clear hW8 hY
  by_cases hr : rqP (mkRq m p Q H b)
  case neg =>
    have tz := TZ.out.1 hr
    have hf : rqV (mkRq m p Q H b) = 1 := rqV_f hr
    rw [hf] at KF
    clear TZ RB RC
    subst tz
    go_wp2_with fail
    refine (KF _ G8.out.1 G8.out.2).out.mono ?_
    rintro e w9 ⟨rfl, hb9⟩
    have B9 := hid (B8.out.trans (hb9.mono B8.out.size))
    clear hb9
    go_wp2
    go_ret
    exact ⟨rfl, B9.out⟩
  have tz := TZ.out.2 hr
  have HR := hid hr
  have T1 := hid tz.1
  have HE := hid he
  have tn : ¬ (t = ⟨#[]⟩) := fun e => by have := tz.1; rw [e] at this; revert this; decide
  have tb : t.toList.isEmpty = false := by
    rw [ByteArray.toList_eq]
    have : t.data.toList.length = t.size := by rw [baLen]
    cases hq : t.data.toList with
    | nil => rw [hq] at this; have := tz.1; simp at *; omega
    | cons x l => rfl
  clear tn
  have z1 : ¬ 9223372036854775807 < ee.size + t.size := by omega
  have z2 : ¬ 9223372036854775807 < (ee ++ t).size + ee.size := by rw [ByteArray.size_append]; omega
  clear hr TZ
  go_wp2_with fail
  refine (RB ee HE.out _ B8.out HR.out).out.mono ?_
  rintro x w9 ⟨u1, k1, u2, k2, rfl, v1, v2, hb9⟩
  clear y0 y1
  clear x0 x1 x2 x3 x4
  have RX9 := hid (RX8.out.below hb9 RX8.out.lt)
  have B9 := hid (B8.out.trans (hb9.mono B8.out.size))
  have G9 : Hid (Hps w9 a1 n1 c1 (hAt Q) ∧ Hps w9 a2 n2 c2 (hAt H)) := ⟨G8.out.1.below hb9, G8.out.2.below hb9⟩
  clear hb9 RX8 B8 G8
  obtain ⟨Z, hZ⟩ : ∃ Z, Z = w9.heap.size := ⟨_, rfl⟩
  obtain ⟨W10, hW10⟩ : ∃ W, W = w9.alloc (.cells #[.int .i64 0, .int .i64 0, .string m, .string p, .slice u1 n1 k1, .slice u2 n2 k2, .string b, .int .i64 ((ee.size : Int) + (t.size : Int))] 35) := ⟨_, rfl⟩
  have hb10 : Below w9.heap.size w9 W10 := by rw [hW10]; exact (Below.refl _ _).alloc (Nat.le_refl _) _
  have RZ : Hid (RowAt W10 Z 35 #[.int .i64 0, .int .i64 0, .string m, .string p, .slice u1 n1 k1, .slice u2 n2 k2, .string b, .int .i64 ((ee.size : Int) + (t.size : Int))]) := by rw [hW10, hZ]; exact RowAt.new _ _ _
  have V10 : Hid (Hps W10 u1 n1 k1 (hAt Q) ∧ Hps W10 u2 n2 k2 (hAt H)) := ⟨v1.below hb10, v2.below hb10⟩
  clear v1 v2
  have RX10 := hid (RX9.out.below hb10 RX9.out.lt)
  have B10 := hid (B9.out.trans (hb10.mono B9.out.size))
  have G10 : Hid (Hps W10 a1 n1 c1 (hAt Q) ∧ Hps W10 a2 n2 c2 (hAt H)) := ⟨G9.out.1.below hb10, G9.out.2.below hb10⟩
  clear hb10 RX9 B9 G9
  have x0 : W10.cell? ⟨X, 0, none⟩ = some (.string m) := RX10.out.cell 0
  have x1 : W10.cell? ⟨X, 1, none⟩ = some (.string p) := RX10.out.cell 1
  have x2 : W10.cell? ⟨X, 2, none⟩ = some (.slice a1 n1 c1) := RX10.out.cell 2
  have x3 : W10.cell? ⟨X, 3, none⟩ = some (.slice a2 n2 c2) := RX10.out.cell 3
  have x4 : W10.cell? ⟨X, 4, none⟩ = some (.string b) := RX10.out.cell 4
  have z0 : W10.cell? ⟨Z, 0, none⟩ = some (.int .i64 0) := RZ.out.cell 0
  have z1 : W10.cell? ⟨Z, 1, none⟩ = some (.int .i64 0) := RZ.out.cell 1
  have z2 : W10.cell? ⟨Z, 2, none⟩ = some (.string m) := RZ.out.cell 2
  have z3 : W10.cell? ⟨Z, 3, none⟩ = some (.string p) := RZ.out.cell 3
  have z4 : W10.cell? ⟨Z, 4, none⟩ = some (.slice u1 n1 k1) := RZ.out.cell 4
  have z5 : W10.cell? ⟨Z, 5, none⟩ = some (.slice u2 n2 k2) := RZ.out.cell 5
  have z6 : W10.cell? ⟨Z, 6, none⟩ = some (.string b) := RZ.out.cell 6
  have z7 : W10.cell? ⟨Z, 7, none⟩ = some (.int .i64 ((ee.size : Int) + (t.size : Int))) := RZ.out.cell 7
  have wz : IntKind.i64.wrap ((ee.size : Int) + (t.size : Int)) = (ee.size : Int) + (t.size : Int) := by simp [IntKind.wrap, IntKind.bits, IntKind.signed]; omega
  have qz : ((ee.size : Int) + (t.size : Int) != (ee.size : Int) + (t.size : Int)) = false := by simp
  go_upto_region 15 with fail
  rw [← hW10, ← hZ]
  clear hW10 hZ
  go_wp2_with fail
  refine (lwRequest_eq m p u1 n1 k1 u2 n2 k2 b a1 c1 a2 c2 (hAt Q) (hAt H) _ V10.out.1 V10.out.2 G10.out.1 G10.out.2 NB.out.1 NB.out.2).mono ?_
  rintro e w11 ⟨rfl, hb11⟩
  have B11 := hid (B10.out.trans (hb11.mono B10.out.size))
  clear hb11
  clear x0 x1 x2 x3 x4
  clear z0 z1 z2 z3 z4 z5 z6 z7
  go_wp2_with fail
  refine (KA _ B11.out).out.1.mono ?_
  rintro e w12 ⟨⟨r1, rfl, h1⟩, rfl⟩
  have hw1 : IntKind.i64.wrap ((r1 : Int) * 256) = (r1 : Int) * 256 := by simp [IntKind.wrap, IntKind.bits, IntKind.signed]; omega
  go_wp2_with fail
  refine (KA _ B11.out).out.2.mono ?_
  rintro e w12 ⟨⟨r2, rfl, h2⟩, rfl⟩
  have hw2 : IntKind.i64.wrap ((r1 : Int) * 256 + (r2 : Int)) = (r1 : Int) * 256 + (r2 : Int) := by simp [IntKind.wrap, IntKind.bits, IntKind.signed]; omega
  obtain ⟨N, hN⟩ : ∃ N, N = r1 * 256 + r2 := ⟨_, rfl⟩
  have hN2 : (r1 : Int) * 256 + (r2 : Int) = (N : Int) := by omega
  have t0 : ¬ (t.size : Int) = 0 := by omega
  obtain ⟨k, hk⟩ : ∃ k, k = N % t.size := ⟨_, rfl⟩
  have hkl : k < t.size := by rw [hk]; exact Nat.mod_lt _ (by omega)
  have km : Int.tmod (N : Int) (t.size : Int) = (k : Int) := by rw [hk]; rfl
  have RC' := RC k hkl _ B11.out HR.out
  have hw3 : IntKind.i64.wrap (N : Int) = (N : Int) := by rw [← hN2]; exact hw2
  have hw4 : IntKind.i64.wrap (k : Int) = (k : Int) := by simp [IntKind.wrap, IntKind.bits, IntKind.signed]; omega
  have k0 : (0 : Int) ≤ (k : Int) := by omega
  have k1 : (k : Int) ≤ (t.size : Int) := by omega
  clear hN hk hw2
  go_wp2_with fail
  refine RC'.out.mono ?_
  rintro e w13 ⟨rfl, hb13⟩
  have B13 := hid (B11.out.trans (hb13.mono B11.out.size))
  clear hb13
  have fd : ∀ wx, (Instr.field 35 (.agg #[.int .i64 2, .int .i64 0, .string ⟨#[]⟩, .string ⟨#[]⟩, .slice none 0 0, .slice none 0 0, .string ⟨#[]⟩, .int .i64 0]) 0).run Tryz.prog wx = .ok (.int .i64 2) wx := fun wx => by kernel_rfl
  go_wp2
  go_ret
  exact ⟨rfl, B13.out⟩
end Go.Proofs.YtgoplcjjoiiagaaGreatDoor
