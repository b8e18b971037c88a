import Derived.Test.YtgoplcjjoiiagaaGreatDoorRdQ
import Derived.Test.YtgoplcjjoiiagaaGreatDoorIReq
import Derived.Deep.CutRange
import Derived.BigQuiet
import Derived.Deep.QuietTactic
namespace Go.Proofs.YtgoplcjjoiiagaaGreatDoor
open Go.RowKit Go.Shelf
/-! The program's readFirstLine. -/
theorem qyO_bd : ∀ (l : List (List UInt8)) (L : List Hp), qyO l = some L → L.length = l.length ∧ ∀ x ∈ L, x.nm.size ≤ 100000 ∧ x.vl.size ≤ 100000
  | [], L, h => by cases h; exact ⟨rfl, fun x hx => by cases hx⟩
  | p :: r, L, h => by
    unfold qyO at h
    split at h
    · cases h
    · split at h
      · cases h
      · split at h
        · cases h
        · rename_i h1 _ _ h2
          cases hr : qyO r with
          | none => rw [hr] at h; cases h
          | some M =>
            rw [hr] at h
            obtain ⟨e1, e2⟩ := qyO_bd r M hr
            cases h
            refine ⟨by simp [e1], fun x hx => ?_⟩
            rcases List.mem_cons.1 hx with rfl | hx
            · exact ⟨by rw [ofL_size]; exact unV_len h1, by rw [ofL_size]; exact unV_len h2⟩
            · exact e2 x hx
theorem hAt_bd {L : List Hp} {B : Nat} (h : ∀ x ∈ L, x.nm.size ≤ B ∧ x.vl.size ≤ B) (i : Nat) (hi : i < L.length) : (hAt L i).nm.size ≤ B ∧ (hAt L i).vl.size ≤ B := by
  have e : hAt L i = L[i] := by unfold hAt; simp [List.getD, hi]
  rw [e]
  exact h _ (List.getElem_mem hi)
theorem no_path (m : ByteArray) (L : List Hp) : ¬ rqP (mkRq m ⟨#[]⟩ L [] ⟨#[]⟩) := fun h => by
  obtain ⟨h1, _⟩ := h.2.1
  have h2 : (mkRq m ⟨#[]⟩ L [] ⟨#[]⟩).pt.size = 0 := rfl
  omega
theorem unL_nil : unL [] = some [] := unV_esc (ofL []) [] (by rw [ofL_l]; simp [esc]) (by decide)
theorem hps_drew {w : World} {a : Option Addr} {n c : Nat} {o : Nat → Hp} (h : Hps w a n c o) : Hps w.drew a n c o := h
section
variable {t a b c d : List UInt8} {f g : Bool}
theorem fst_bad1 (h1 : cutV [32] t = (a, b, f)) (h2 : cutV [63] b = (c, d, g)) (hu : unL c = none) : fstO t = none := by
  unfold cutV at h1 h2
  cases q1 : cutP [32] t with
  | none => exact fstO_none q1
  | some x =>
    rw [q1] at h1
    obtain ⟨m, r⟩ := x
    have e1 : m = a ∧ r = b ∧ true = f := by simpa using h1
    obtain ⟨e1, e2, _⟩ := e1
    subst e1
    subst e2
    cases q2 : cutP [63] r with
    | none =>
      rw [q2] at h2
      have e3 : r = c ∧ [] = d ∧ false = g := by simpa using h2
      obtain ⟨e3, _, e5⟩ := e3
      subst e3
      rw [fstO_plain q1 q2]
      exact finO_none2 _ _ hu
    | some y =>
      rw [q2] at h2
      obtain ⟨c2, d2⟩ := y
      have e3 : c2 = c ∧ d2 = d ∧ true = g := by simpa using h2
      obtain ⟨e3, e4, _⟩ := e3
      subst e3
      subst e4
      rw [fstO_query q1 q2]
      cases qyO (splA 38 [] d2) with
      | none => rfl
      | some L => exact finO_none2 _ _ hu
theorem fst_bad2 (h1 : cutV [32] t = (a, b, f)) (h2 : cutV [63] b = (c, d, true)) (hq : qyO (splA 38 [] d) = none) : fstO t = none := by
  unfold cutV at h1 h2
  cases q1 : cutP [32] t with
  | none => exact fstO_none q1
  | some x =>
    rw [q1] at h1
    obtain ⟨m, r⟩ := x
    have e1 : m = a ∧ r = b ∧ true = f := by simpa using h1
    obtain ⟨e1, e2, _⟩ := e1
    subst e1
    subst e2
    cases q2 : cutP [63] r with
    | none => rw [q2] at h2; cases h2
    | some y =>
      rw [q2] at h2
      obtain ⟨c2, d2⟩ := y
      have e3 : c2 = c ∧ d2 = d := by simpa using h2
      obtain ⟨e3, e4⟩ := e3
      subst e3
      subst e4
      rw [fstO_query q1 q2, hq]
      rfl
theorem fst_fin {p : List UInt8} {L : List Hp} (h1 : cutV [32] t = (a, b, f)) (h2 : cutV [63] b = (c, d, g)) (hu : unL c = some p) (hL : (g = false ∧ L = []) ∨ (g = true ∧ qyO (splA 38 [] d) = some L)) :
    (rqP (mkRq (ofL a) (ofL p) L [] ⟨#[]⟩) → fstO t = some (ofL a, ofL p, L)) ∧ (¬ rqP (mkRq (ofL a) (ofL p) L [] ⟨#[]⟩) → fstO t = none) := by
  unfold cutV at h1 h2
  cases q1 : cutP [32] t with
  | none =>
    rw [q1] at h1
    have e1 : t = a ∧ [] = b ∧ false = f := by simpa using h1
    obtain ⟨_, e2, _⟩ := e1
    subst e2
    have q2 : cutP [63] ([] : List UInt8) = none := cutP_none fun j hj => by simp
    rw [q2] at h2
    have e3 : [] = c ∧ [] = d ∧ false = g := by simpa using h2
    obtain ⟨e3, _, _⟩ := e3
    subst e3
    rw [unL_nil] at hu
    cases hu
    exact ⟨fun h => absurd h (no_path _ _), fun _ => fstO_none q1⟩
  | some x =>
    rw [q1] at h1
    obtain ⟨m, r⟩ := x
    have e1 : m = a ∧ r = b ∧ true = f := by simpa using h1
    obtain ⟨e1, e2, _⟩ := e1
    subst e1
    subst e2
    cases q2 : cutP [63] r with
    | none =>
      rw [q2] at h2
      have e3 : r = c ∧ [] = d ∧ false = g := by simpa using h2
      obtain ⟨e3, _, e5⟩ := e3
      subst e3
      rcases hL with ⟨_, rfl⟩ | ⟨h, _⟩
      · rw [fstO_plain q1 q2]
        exact ⟨fun h => finO_yes _ _ hu h, fun h => finO_no _ _ hu h⟩
      · rw [h] at e5; cases e5
    | some y =>
      rw [q2] at h2
      obtain ⟨c2, d2⟩ := y
      have e3 : c2 = c ∧ d2 = d ∧ true = g := by simpa using h2
      obtain ⟨e3, e4, e5⟩ := e3
      subst e3
      subst e4
      rcases hL with ⟨h, _⟩ | ⟨_, hL⟩
      · rw [h] at e5; cases e5
      · rw [fstO_query q1 q2, hL]
        exact ⟨fun h => finO_yes _ _ hu h, fun h => finO_no _ _ hu h⟩
end
theorem jn_mk {W w : World} {b : Nat} {t : TypeId} {cs : Array Value} (h : RowAt w b t cs) (k : Below W.heap.size W w) : Jn W w b t cs := ⟨h, k⟩
theorem r5_set {wx : World} {b : Nat} {t : TypeId} {u0 u1 u2 u3 u4 : Value} (h : RowAt wx b t #[u0, u1, u2, u3, u4]) (v0 v1 v2 v3 v4 : Value) : RowAt (((((wx.setCell ⟨b, 0, none⟩ v0).setCell ⟨b, 1, none⟩ v1).setCell ⟨b, 2, none⟩ v2).setCell ⟨b, 3, none⟩ v3).setCell ⟨b, 4, none⟩ v4) b t #[v0, v1, v2, v3, v4] :=
  ((((h.set 0 v0).set 1 v1).set 2 v2).set 3 v3).set 4 v4
theorem r5_oth {wx : World} {b c : Nat} {t : TypeId} {cs : Array Value} (h : RowAt wx c t cs) (hn : c ≠ b) (v0 v1 v2 v3 v4 : Value) : RowAt (((((wx.setCell ⟨b, 0, none⟩ v0).setCell ⟨b, 1, none⟩ v1).setCell ⟨b, 2, none⟩ v2).setCell ⟨b, 3, none⟩ v3).setCell ⟨b, 4, none⟩ v4) c t cs :=
  ((((h.other _ _ hn).other _ _ hn).other _ _ hn).other _ _ hn).other _ _ hn
theorem r5_bel {w wx : World} {b B : Nat} (h : Below B w wx) (hn : B ≤ b) (v0 v1 v2 v3 v4 : Value) : Below B w (((((wx.setCell ⟨b, 0, none⟩ v0).setCell ⟨b, 1, none⟩ v1).setCell ⟨b, 2, none⟩ v2).setCell ⟨b, 3, none⟩ v3).setCell ⟨b, 4, none⟩ v4) :=
  ((((h.setCell hn _).setCell hn _).setCell hn _).setCell hn _).setCell hn _
theorem first_ret {t : List UInt8} {w wf : World} {m p : ByteArray} {v : Value} {L : List Hp} {b : Bool} {tm : Array Value}
    (hR : RowAt wf w.heap.size 25 #[.string m, .string p, v, .slice none 0 0, .string ⟨#[]⟩]) (hO : OwnHp wf w.heap.size v L) (hB : Below w.heap.size w wf) (hw : (b = true → fstO t = some (m, p, L)) ∧ (b = false → fstO t = none))
    (h2 : tm.getD 2 undef = .pointer (some ⟨w.heap.size, 0, none⟩)) (h3 : tm.getD 3 undef = .bool b) :
    bodyPost Tryz.prog Tryz.f96 (fun e w' => AnsF t w e w') Exit.ret { tmps := tm, defers := [] } wf := by
  have h2' : tm[2]?.getD undef = .pointer (some ⟨w.heap.size, 0, none⟩) := by simpa using h2
  have h3' : tm[3]?.getD undef = .bool b := by simpa using h3
  refine ⟨rfl, .tuple #[.agg #[.string m, .string p, v, .slice none 0 0, .string ⟨#[]⟩], .bool b], ?_, m, p, v, L, b, rfl, hO, hB, hw.1, hw.2⟩
  have hl := run_loadVar_row (P := Tryz.prog) _ w.heap.size 25 25 _ (0, 0) _ hR Tryz.underlying25 rfl (by kernel_rfl)
  simp [results, Tryz.results96, h2', h3', asAddr, hl]
set_option maxRecDepth 20000 in
set_option maxHeartbeats 1000000 in
theorem iFirst (t : ByteArray) (ht : t.size ≤ 400000) (w : World) (hv : RdV w) :
    Calls Tryz.prog 96 #[.string t] w fun e w' => AnsF t.data.toList w e w' := by
  have J := Jn.box w 25 #[.string ⟨#[]⟩, .string ⟨#[]⟩, .slice none 0 0, .slice none 0 0, .string ⟨#[]⟩]
  obtain ⟨W0, hW0⟩ : ∃ W, W = w.alloc (.cells #[.string ⟨#[]⟩, .string ⟨#[]⟩, .slice none 0 0, .slice none 0 0, .string ⟨#[]⟩] 25) := ⟨_, rfl⟩
  rw [← hW0] at J
  have V0 := hid (hv.below J.out.2)
  have HV := hid hv
  obtain ⟨a, b, f, hc⟩ : ∃ a b f, cutV [32] t.data.toList = (a, b, f) := ⟨_, _, _, rfl⟩
  obtain ⟨c, d, g, hc2⟩ : ∃ c d g, cutV [63] b = (c, d, g) := ⟨_, _, _, rfl⟩
  have bl : a.length ≤ t.size ∧ b.length ≤ t.size := by
    unfold cutV at hc
    rw [← baLen]
    cases hq : cutP [32] t.data.toList with
    | none => rw [hq] at hc; cases hc; simp
    | some x =>
      rw [hq] at hc
      cases hc
      have := congrArg List.length (cutP_parts hq)
      simp at this
      simp
      omega
  have dl : c.length ≤ b.length ∧ d.length ≤ b.length := by
    unfold cutV at hc2
    cases hq : cutP [63] b with
    | none => rw [hq] at hc2; cases hc2; simp
    | some x =>
      rw [hq] at hc2
      cases hc2
      have := congrArg List.length (cutP_parts hq)
      simp at this
      omega
  have KC := hid (iCutS t ⟨#[32]⟩ (by omega) W0 V0.out)
  have e1 : cutV (⟨#[32]⟩ : ByteArray).data.toList t.data.toList = (a, b, f) := hc
  rw [e1] at KC
  dsimp only at KC
  have KC2 := fun wx (hx : RdV wx) => hid (iCutS (ofL b) ⟨#[63]⟩ (by rw [ofL_size]; omega) wx hx)
  have e2 : cutV (⟨#[63]⟩ : ByteArray).data.toList (ofL b).data.toList = (c, d, g) := by rw [ofL_l]; exact hc2
  rw [e2] at KC2
  dsimp only at KC2
  obtain ⟨ug, ut, uz, hu, huc⟩ := unO_all (ofL c)
  rw [ofL_l] at huc
  have KU := fun wx => hid (iUn (ofL c) wx)
  rw [hu] at KU
  have KL := fun wx => hid (clone_any (ofL a) wx (by rw [ofL_size]; omega))
  have KQ := fun wx (hx : RdV wx) => hid (iQuery (ofL d) (by rw [ofL_size]; omega) wx hx)
  rw [ofL_l] at KQ
  have az : (ofL a).size ≤ 400000 := by rw [ofL_size]; omega
  have dz : d.length ≤ 400000 := by omega
  have HC := hid hc
  have HC2 := hid hc2
  have HU := hid huc
  have HAZ := hid az
  have HDZ := hid dz
  clear e1 e2 hu hc hc2 huc bl dl hv az dz
  obtain ⟨A, hA⟩ : ∃ A, A = ofL a := ⟨_, rfl⟩
  rw [← hA] at KC KL HAZ
  have HA := hid hA
  generalize ofL b = Bt at KC KC2
  generalize ofL c = Ct at KC2 KU
  generalize ofL d = Dt at KC2 KQ
  clear hA
  go_enter Tryz.func96, Tryz.ntmps96
  go_wp2_with fail
  rw [← hW0]
  clear hW0
  refine KC.out.mono ?_
  rintro e w1 ⟨rfl, k1, hw1⟩
  have J1 : Hid (Jn w w1 w.heap.size 25 #[.string ⟨#[]⟩, .string ⟨#[]⟩, .slice none 0 0, .slice none 0 0, .string ⟨#[]⟩]) := by rw [hw1]; exact Jn.drewN J k1
  have V1 : Hid (RdV w1) := by rw [hw1]; exact ⟨V0.out.mx, V0.out.sx, V0.out.rg, V0.out.tb⟩
  clear hw1 J V0 KC
  go_wp2_with fail
  refine (KC2 _ V1.out).out.mono ?_
  rintro e w2 ⟨rfl, k2, hw2⟩
  have J2 : Hid (Jn w w2 w.heap.size 25 #[.string ⟨#[]⟩, .string ⟨#[]⟩, .slice none 0 0, .slice none 0 0, .string ⟨#[]⟩]) := by rw [hw2]; exact Jn.drewN J1 k2
  have V2 : Hid (RdV w2) := by rw [hw2]; exact ⟨V1.out.mx, V1.out.sx, V1.out.rg, V1.out.tb⟩
  clear hw2 J1 V1 KC2
  go_wp2_with fail
  refine (KU _).out.mono ?_
  rintro e w3 ⟨rfl, hb3⟩
  have V3 := hid (V2.out.below hb3)
  have J3 := Jn.next hb3 J2
  clear hb3 J2 V2 KU
  obtain ⟨W4, hW4⟩ : ∃ W, W = w3.alloc (.cells #[.bool ug, .string ut, .int .i64 uz] 30) := ⟨_, rfl⟩
  obtain ⟨T, hT⟩ : ∃ T, T = w3.heap.size := ⟨_, rfl⟩
  have A4 : Hid (RowAt W4 T 30 #[.bool ug, .string ut, .int .i64 uz]) := by rw [hW4, hT]; exact RowAt.new _ _ _
  have J4 : Hid (Jn w W4 w.heap.size 25 #[.string ⟨#[]⟩, .string ⟨#[]⟩, .slice none 0 0, .slice none 0 0, .string ⟨#[]⟩]) := by rw [hW4]; exact ⟨J3.out.1.alloc _, J3.out.2.alloc J3.out.2.size _⟩
  have V4 : Hid (RdV W4) := by rw [hW4]; exact V3.out.below ((Below.refl _ _).alloc (Nat.le_refl _) _)
  have ltT : w.heap.size < T := by rw [hT]; exact J3.out.1.lt
  clear J3 V3
  go_upto_region 4 with fail
  rw [← hW4, ← hT]
  clear hW4 hT
  have t1 := A4.out.cell 1
  have t1a : ∀ o, (W4.alloc o).cell? ⟨T, 1, none⟩ = some (.string ut) := fun o => (A4.out.alloc o).cell 1
  have t1b : ∀ o, (W4.drew.alloc o).cell? ⟨T, 1, none⟩ = some (.string ut) := fun o => (A4.out.drew.alloc o).cell 1
  go_cut [11] from 28 to 32 (fun p wx => ∃ b, p = .pointer (some ⟨b, 0, none⟩) ∧ T < b ∧ RowAt wx b 25 #[.string A, .string ut, .slice none 0 0, .slice none 0 0, .string ⟨#[]⟩] ∧ RowAt wx T 30 #[.bool ug, .string ut, .int .i64 uz] ∧ Jn w wx w.heap.size 25 #[.string ⟨#[]⟩, .string ⟨#[]⟩, .slice none 0 0, .slice none 0 0, .string ⟨#[]⟩])
  case first =>
    go_region_law ((go_simp; go_at_call 99; refine (KL _).out.mono ?_; rintro e w5 ⟨rfl, hb5⟩; have A5 : Hid (RowAt w5 T 30 #[.bool ug, .string ut, .int .i64 uz]) := (by first | exact A4.out.drew.below hb5 A4.out.lt | exact A4.out.below hb5 A4.out.lt | exact (A4.out.alloc _).drew.below hb5 (A4.out.alloc _).lt | exact (A4.out.drew.alloc _).below hb5 (A4.out.drew.alloc _).lt); have J5 : Hid (Jn w w5 w.heap.size 25 #[.string ⟨#[]⟩, .string ⟨#[]⟩, .slice none 0 0, .slice none 0 0, .string ⟨#[]⟩]) := (by first | exact Jn.next hb5 (Jn.drew J4) | exact Jn.next hb5 J4 | exact Jn.next hb5 (hid ⟨(J4.out.1.alloc _).drew, (J4.out.2.alloc J4.out.2.size _).drew⟩) | exact Jn.next hb5 (hid ⟨J4.out.1.drew.alloc _, J4.out.2.drew.alloc J4.out.2.size _⟩)); (first | (have R5 : Hid (RowAt w5 W4.heap.size 25 #[.string ⟨#[]⟩, .string ⟨#[]⟩, .slice none 0 0, .slice none 0 0, .string ⟨#[]⟩]) := (RowAt.new W4 _ _).drew.below hb5 (RowAt.new W4 _ _).lt; have x0 := R5.out.cell 0; have y0 := R5.out.free 0; have x1 := R5.out.cell 1; have y1 := R5.out.free 1; have x2 := R5.out.cell 2; have y2 := R5.out.free 2; have x3 := R5.out.cell 3; have y3 := R5.out.free 3; have x4 := R5.out.cell 4; have y4 := R5.out.free 4) | (have R5 : Hid (RowAt w5 W4.heap.size 25 #[.string ⟨#[]⟩, .string ⟨#[]⟩, .slice none 0 0, .slice none 0 0, .string ⟨#[]⟩]) := (RowAt.new W4.drew _ _).below hb5 (RowAt.new W4.drew _ _).lt; have x0 := R5.out.cell 0; have y0 := R5.out.free 0; have x1 := R5.out.cell 1; have y1 := R5.out.free 1; have x2 := R5.out.cell 2; have y2 := R5.out.free 2; have x3 := R5.out.cell 3; have y3 := R5.out.free 3; have x4 := R5.out.cell 4; have y4 := R5.out.free 4) | skip); have t51 : w5.cell? ⟨T, 1, none⟩ = some (.string ut) := A5.out.cell 1; have t52 : ∀ o, (w5.alloc o).cell? ⟨T, 1, none⟩ = some (.string ut) := (fun o => (A5.out.alloc o).cell 1); clear hb5; dsimp only))
    all_goals go_wp2_with fail
    all_goals go_meet
    all_goals refine ⟨_, rfl, ?_⟩
    all_goals first
      | (have hR5 := R5.out; exact ⟨A4.out.lt, r5_set hR5 _ _ _ _ _, r5_oth A5.out (Nat.ne_of_lt A4.out.lt) _ _ _ _ _, jn_mk (r5_oth J5.out.1 (Nat.ne_of_lt J4.out.1.lt) _ _ _ _ _) (r5_bel J5.out.2 (Nat.le_of_lt J4.out.1.lt) _ _ _ _ _)⟩)
      | exact ⟨A5.out.lt, RowAt.new _ _ _, A5.out.alloc _, jn_mk (J5.out.1.alloc _) (J5.out.2.alloc J5.out.2.size _)⟩
  case rest =>
    obtain ⟨b, rfl, hTb, hR, hT, hJ⟩ := hcut
    obtain ⟨W5, hW5⟩ : ∃ W, W = wc := ⟨_, rfl⟩
    subst hW5
    have RR := hid hR
    have JJ0 : Hid (Jn w W5 w.heap.size 25 #[.string ⟨#[]⟩, .string ⟨#[]⟩, .slice none 0 0, .slice none 0 0, .string ⟨#[]⟩]) := hJ
    have V5 := hid (HV.out.below hJ.2)
    have t0 : W5.cell? ⟨T, 0, none⟩ = some (.bool ug) := hT.cell 0
    have hbw : w.heap.size < b := Nat.lt_trans ltT hTb
    have HBW := hid hbw
    clear hR hT hJ A4 J4 V4 t1 t1a t1b KL hbw hTb ltT
    rcases HU.out with ⟨hg, hun⟩ | ⟨hg, l, hul, hut, huz⟩
    · subst hg
      have FN := hid (fst_bad1 HC.out HC2.out hun)
      have q0 := JJ0.out.1.cell 0
      have q1 := JJ0.out.1.cell 1
      have q2 := JJ0.out.1.cell 2
      have q3 := JJ0.out.1.cell 3
      have q4 := JJ0.out.1.cell 4
      have f0 := JJ0.out.1.free 0
      have f1 := JJ0.out.1.free 1
      have f2 := JJ0.out.1.free 2
      have f3 := JJ0.out.1.free 3
      have f4 := JJ0.out.1.free 4
      have R9 := hid (r5_set JJ0.out.1 (.string ⟨#[]⟩) (.string ⟨#[]⟩) (.slice none 0 0) (.slice none 0 0) (.string ⟨#[]⟩))
      have B9 := hid (r5_bel (b := w.heap.size) JJ0.out.2 (Nat.le_refl _) (.string ⟨#[]⟩) (.string ⟨#[]⟩) (.slice none 0 0) (.slice none 0 0) (.string ⟨#[]⟩))
      go_wp2
      exact first_ret R9.out (OwnHp.nil _ _) B9.out ⟨fun h => Bool.noConfusion h, fun _ => FN.out⟩ rfl rfl
    · subst hg
      have HUZ : Hid (ut.size ≤ 100000) := by show _ ≤ _; rw [hut]; exact huz
      have HUT := hid hut
      have HUL := hid hul
      clear hut hul huz
      cases g with
      | false =>
        obtain ⟨LE, hLE⟩ : ∃ L : List Hp, L = [] := ⟨_, rfl⟩
        have hLL : Hid ((false = false ∧ LE = []) ∨ (false = true ∧ qyO (splA 38 [] d) = some LE)) := .inl ⟨rfl, hLE⟩
        have LB : Hid (LE.length ≤ 400001 ∧ ∀ x ∈ LE, x.nm.size ≤ 100000 ∧ x.vl.size ≤ 100000) := by rw [hLE]; exact ⟨Nat.zero_le _, fun x hx => by cases hx⟩
        obtain ⟨cq, hcq⟩ : ∃ c : Nat, c = 0 := ⟨_, rfl⟩
        have RJ : Hid (RowAt W5 b 25 #[.string A, .string ut, .slice none LE.length cq, .slice none 0 0, .string ⟨#[]⟩]) := by rw [hLE, hcq]; exact RR.out
        have OO : Hid (OwnHp W5 (w.heap.size + 1) (.slice none LE.length cq) LE) := by rw [hLE, hcq]; exact OwnHp.nil _ _
        have JJ := JJ0
        clear RR JJ0 hLE hcq
        have RB : RqB ⟨A, ut, ⟨none, LE.length, cq, hAt LE⟩, ⟨none, 0, 0, hAt []⟩, ⟨#[]⟩⟩ 1048576 := ⟨by have := HAZ.out; show A.size ≤ _; omega, by have := HUZ.out; show ut.size ≤ _; omega, ⟨by have := LB.out.1; show LE.length ≤ _; omega, fun i hi => ⟨Nat.le_trans (hAt_bd LB.out.2 i hi).1 (by decide), Nat.le_trans (hAt_bd LB.out.2 i hi).2 (by decide)⟩⟩, ⟨Nat.zero_le _, fun i hi => by cases hi⟩, by show (⟨#[]⟩ : ByteArray).size ≤ _; decide⟩
        have KR := fun wx (hx : Hps wx none LE.length cq (hAt LE)) => hid (iRqF ⟨A, ut, ⟨none, LE.length, cq, hAt LE⟩, ⟨none, 0, 0, hAt []⟩, ⟨#[]⟩⟩ RB wx ⟨hx, ⟨Nat.le_refl _, .inl rfl⟩⟩)
        have eV : (Rq.mk A ut ⟨none, LE.length, cq, hAt LE⟩ ⟨none, 0, 0, hAt []⟩ ⟨#[]⟩).v = .agg #[.string A, .string ut, .slice none LE.length cq, .slice none 0 0, .string ⟨#[]⟩] := rfl
        rw [eV] at KR
        obtain ⟨rz, hrz⟩ : ∃ z, z = rqV ⟨A, ut, ⟨none, LE.length, cq, hAt LE⟩, ⟨none, 0, 0, hAt []⟩, ⟨#[]⟩⟩ := ⟨_, rfl⟩
        rw [← hrz] at KR
        obtain ⟨bo, hbo⟩ : ∃ bo : Bool, bo = (rz == 0) := ⟨_, rfl⟩
        have FF : Hid ((bo = true → fstO t.data.toList = some (A, ut, LE)) ∧ (bo = false → fstO t.data.toList = none)) := by
          have key := fst_fin HC.out HC2.out HUL.out hLL.out
          rw [← HA.out, ← HUT.out] at key
          have e9 : rqV ⟨A, ut, ⟨none, LE.length, cq, hAt LE⟩, ⟨none, 0, 0, hAt []⟩, ⟨#[]⟩⟩ = rqV (mkRq A ut LE [] ⟨#[]⟩) := rfl
          by_cases hp : rqP (mkRq A ut LE [] ⟨#[]⟩)
          · have : bo = true := by rw [hbo, hrz, e9, rqV_t hp]; rfl
            exact ⟨fun _ => key.1 hp, (fun h => by rw [this] at h; cases h)⟩
          · have : bo = false := by rw [hbo, hrz, e9, rqV_f hp]; rfl
            exact ⟨(fun h => by rw [this] at h; cases h), fun _ => key.2 hp⟩
        obtain ⟨LN, hLN⟩ : ∃ n, n = LE.length := ⟨_, rfl⟩
        rw [← hLN] at KR RJ OO
        try rw [← hLN] at JJ
        try rw [← hLN]
        have HBO := hid hbo
        clear hrz hbo RB eV hLL LB
        have HLN := hid hLN
        clear hLN
        have b0 := RJ.out.cell 0
        have b1 := RJ.out.cell 1
        have b2 := RJ.out.cell 2
        have b3 := RJ.out.cell 3
        have b4 := RJ.out.cell 4
        have HP : Hid (Hps W5 none LN cq (hAt LE)) := by
          obtain ⟨aa, cc, e7, h7⟩ := OO.out.hps
          rw [← HLN.out] at e7 h7
          cases e7
          exact h7
        go_upto_region 12 with fail
        go_region_law ((go_simp; go_at_call 11; refine (KR _ (by first | exact hps_drew HP.out | exact HP.out)).out.mono ?_; rintro e w8 ⟨rfl, hb8⟩; have J8 : Hid (Jn w w8 w.heap.size 25 #[.string ⟨#[]⟩, .string ⟨#[]⟩, .slice none 0 0, .slice none 0 0, .string ⟨#[]⟩]) := (by first | exact Jn.next hb8 (Jn.drew JJ) | exact Jn.next hb8 JJ); have R8 : Hid (RowAt w8 b 25 #[.string A, .string ut, .slice none LN cq, .slice none 0 0, .string ⟨#[]⟩]) := (by first | exact RJ.out.drew.below hb8 RJ.out.lt | exact RJ.out.below hb8 RJ.out.lt); have O8 : Hid (OwnHp w8 (w.heap.size + 1) (.slice none LN cq) LE) := (by first | exact OwnHp.next hb8 (World.ownsRow.drew OO.out) | exact OwnHp.next hb8 OO.out); have k0 := R8.out.cell 0; have k1 := R8.out.cell 1; have k2 := R8.out.cell 2; have k3 := R8.out.cell 3; have k4 := R8.out.cell 4; have q0 := J8.out.1.cell 0; have q1 := J8.out.1.cell 1; have q2 := J8.out.1.cell 2; have q3 := J8.out.1.cell 3; have q4 := J8.out.1.cell 4; have f0 := J8.out.1.free 0; have f1 := J8.out.1.free 1; have f2 := J8.out.1.free 2; have f3 := J8.out.1.free 3; have f4 := J8.out.1.free 4; clear hb8; dsimp only))
        all_goals (try rw [← HBO.out])
        all_goals go_wp2
        all_goals
          have R9 := hid (r5_set J8.out.1 (.string A) (.string ut) (.slice none LN cq) (.slice none 0 0) (.string ⟨#[]⟩))
          have B9 := hid (r5_bel (b := w.heap.size) J8.out.2 (Nat.le_refl _) (.string A) (.string ut) (.slice none LN cq) (.slice none 0 0) (.string ⟨#[]⟩))
          have O9 := hid (OwnHp.setCell (OwnHp.setCell (OwnHp.setCell (OwnHp.setCell (OwnHp.setCell O8.out ⟨w.heap.size, 0, none⟩ (.string A) (Nat.lt_succ_self _)) ⟨w.heap.size, 1, none⟩ (.string ut) (Nat.lt_succ_self _)) ⟨w.heap.size, 2, none⟩ (.slice none LN cq) (Nat.lt_succ_self _)) ⟨w.heap.size, 3, none⟩ (.slice none 0 0) (Nat.lt_succ_self _)) ⟨w.heap.size, 4, none⟩ (.string ⟨#[]⟩) (Nat.lt_succ_self _))
          first
            | exact first_ret R9.out (O9.out.mono (Nat.le_succ _)) B9.out FF.out rfl rfl
            | exact first_ret R9.out.drew (OwnHp.mono (World.ownsRow.drew O9.out) (Nat.le_succ _)) B9.out.drew FF.out rfl rfl
      | true =>
        go_wp2_with fail
        refine (KQ _ V5.out).out.mono ?_
        rintro e w6 ⟨v, L, ok, rfl, hO, hy, hn, hb6⟩
        have J6 := Jn.next hb6 JJ0
        have R6 := hid (RR.out.below hb6 RR.out.lt)
        have hb5 : b < W5.heap.size := RR.out.lt
        clear hb6 JJ0 RR V5 t0
        cases ok with
        | false =>
          have FN := hid (fst_bad2 HC.out HC2.out (hn rfl))
          clear hy hn hO
          have q0 := J6.out.1.cell 0
          have q1 := J6.out.1.cell 1
          have q2 := J6.out.1.cell 2
          have q3 := J6.out.1.cell 3
          have q4 := J6.out.1.cell 4
          have f0 := J6.out.1.free 0
          have f1 := J6.out.1.free 1
          have f2 := J6.out.1.free 2
          have f3 := J6.out.1.free 3
          have f4 := J6.out.1.free 4
          have R9 := hid (r5_set J6.out.1 (.string ⟨#[]⟩) (.string ⟨#[]⟩) (.slice none 0 0) (.slice none 0 0) (.string ⟨#[]⟩))
          have B9 := hid (r5_bel (b := w.heap.size) J6.out.2 (Nat.le_refl _) (.string ⟨#[]⟩) (.string ⟨#[]⟩) (.slice none 0 0) (.slice none 0 0) (.string ⟨#[]⟩))
          go_wp2
          exact first_ret R9.out (OwnHp.nil _ _) B9.out ⟨fun h => Bool.noConfusion h, fun _ => FN.out⟩ rfl rfl
        | true =>
          obtain ⟨e8, l8⟩ := qyO_bd _ _ (hy rfl)
          have hLL : Hid ((true = false ∧ L = []) ∨ (true = true ∧ qyO (splA 38 [] d) = some L)) := .inr ⟨rfl, hy rfl⟩
          have LB : Hid (L.length ≤ 400001 ∧ ∀ x ∈ L, x.nm.size ≤ 100000 ∧ x.vl.size ≤ 100000) := ⟨by rw [e8]; have := (splA_len 38 d []).2; have := HDZ.out; omega, l8⟩
          obtain ⟨aq, cq, hvq, _⟩ := hO.hps
          have RJ : Hid (RowAt (w6.setCell ⟨b, 2, none⟩ (.slice aq L.length cq)) b 25 #[.string A, .string ut, .slice aq L.length cq, .slice none 0 0, .string ⟨#[]⟩]) := R6.out.set 2 _
          have OO : Hid (OwnHp (w6.setCell ⟨b, 2, none⟩ (.slice aq L.length cq)) (w.heap.size + 1) (.slice aq L.length cq) L) := by
            have h9 : OwnHp w6 (w.heap.size + 1) (.slice aq L.length cq) L := by rw [← hvq]; exact hO.mono (by have := HBW.out; omega)
            have h10 : OwnHp w6 W5.heap.size (.slice aq L.length cq) L := by rw [← hvq]; exact hO
            exact OwnHp.mono (OwnHp.setCell h10 ⟨b, 2, none⟩ _ hb5) (by have := HBW.out; omega)
          have JJ : Hid (Jn w (w6.setCell ⟨b, 2, none⟩ (.slice aq L.length cq)) w.heap.size 25 #[.string ⟨#[]⟩, .string ⟨#[]⟩, .slice none 0 0, .slice none 0 0, .string ⟨#[]⟩]) := ⟨J6.out.1.other _ _ (by show w.heap.size ≠ b; have := HBW.out; omega), J6.out.2.setCell (by show w.heap.size ≤ b; have := HBW.out; omega) _⟩
          have g2 := R6.out.cell 2
          have h2 := R6.out.free 2
          subst hvq
          clear hy hn hO e8 l8 J6 hb5
          have RB : RqB ⟨A, ut, ⟨aq, L.length, cq, hAt L⟩, ⟨none, 0, 0, hAt []⟩, ⟨#[]⟩⟩ 1048576 := ⟨by have := HAZ.out; show A.size ≤ _; omega, by have := HUZ.out; show ut.size ≤ _; omega, ⟨by have := LB.out.1; show L.length ≤ _; omega, fun i hi => ⟨Nat.le_trans (hAt_bd LB.out.2 i hi).1 (by decide), Nat.le_trans (hAt_bd LB.out.2 i hi).2 (by decide)⟩⟩, ⟨Nat.zero_le _, fun i hi => by cases hi⟩, by show (⟨#[]⟩ : ByteArray).size ≤ _; decide⟩
          have KR := fun wx (hx : Hps wx aq L.length cq (hAt L)) => hid (iRqF ⟨A, ut, ⟨aq, L.length, cq, hAt L⟩, ⟨none, 0, 0, hAt []⟩, ⟨#[]⟩⟩ RB wx ⟨hx, ⟨Nat.le_refl _, .inl rfl⟩⟩)
          have eV : (Rq.mk A ut ⟨aq, L.length, cq, hAt L⟩ ⟨none, 0, 0, hAt []⟩ ⟨#[]⟩).v = .agg #[.string A, .string ut, .slice aq L.length cq, .slice none 0 0, .string ⟨#[]⟩] := rfl
          rw [eV] at KR
          obtain ⟨rz, hrz⟩ : ∃ z, z = rqV ⟨A, ut, ⟨aq, L.length, cq, hAt L⟩, ⟨none, 0, 0, hAt []⟩, ⟨#[]⟩⟩ := ⟨_, rfl⟩
          rw [← hrz] at KR
          obtain ⟨bo, hbo⟩ : ∃ bo : Bool, bo = (rz == 0) := ⟨_, rfl⟩
          have FF : Hid ((bo = true → fstO t.data.toList = some (A, ut, L)) ∧ (bo = false → fstO t.data.toList = none)) := by
            have key := fst_fin HC.out HC2.out HUL.out hLL.out
            rw [← HA.out, ← HUT.out] at key
            have e9 : rqV ⟨A, ut, ⟨aq, L.length, cq, hAt L⟩, ⟨none, 0, 0, hAt []⟩, ⟨#[]⟩⟩ = rqV (mkRq A ut L [] ⟨#[]⟩) := rfl
            by_cases hp : rqP (mkRq A ut L [] ⟨#[]⟩)
            · have : bo = true := by rw [hbo, hrz, e9, rqV_t hp]; rfl
              exact ⟨fun _ => key.1 hp, (fun h => by rw [this] at h; cases h)⟩
            · have : bo = false := by rw [hbo, hrz, e9, rqV_f hp]; rfl
              exact ⟨(fun h => by rw [this] at h; cases h), fun _ => key.2 hp⟩
          obtain ⟨LN, hLN⟩ : ∃ n, n = L.length := ⟨_, rfl⟩
          rw [← hLN] at KR RJ OO
          try rw [← hLN] at JJ
          try rw [← hLN]
          have HBO := hid hbo
          clear hrz hbo RB eV hLL LB
          have HLN := hid hLN
          clear hLN
          have b0 := RJ.out.cell 0
          have b1 := RJ.out.cell 1
          have b2 := RJ.out.cell 2
          have b3 := RJ.out.cell 3
          have b4 := RJ.out.cell 4
          have HP : Hid (Hps (w6.setCell ⟨b, 2, none⟩ (.slice aq LN cq)) aq LN cq (hAt L)) := by
            obtain ⟨aa, cc, e7, h7⟩ := OO.out.hps
            rw [← HLN.out] at e7 h7
            cases e7
            exact h7
          go_upto_region 12 with fail
          go_region_law ((go_simp; go_at_call 11; refine (KR _ (by first | exact hps_drew HP.out | exact HP.out)).out.mono ?_; rintro e w8 ⟨rfl, hb8⟩; have J8 : Hid (Jn w w8 w.heap.size 25 #[.string ⟨#[]⟩, .string ⟨#[]⟩, .slice none 0 0, .slice none 0 0, .string ⟨#[]⟩]) := (by first | exact Jn.next hb8 (Jn.drew JJ) | exact Jn.next hb8 JJ); have R8 : Hid (RowAt w8 b 25 #[.string A, .string ut, .slice aq LN cq, .slice none 0 0, .string ⟨#[]⟩]) := (by first | exact RJ.out.drew.below hb8 RJ.out.lt | exact RJ.out.below hb8 RJ.out.lt); have O8 : Hid (OwnHp w8 (w.heap.size + 1) (.slice aq LN cq) L) := (by first | exact OwnHp.next hb8 (World.ownsRow.drew OO.out) | exact OwnHp.next hb8 OO.out); have k0 := R8.out.cell 0; have k1 := R8.out.cell 1; have k2 := R8.out.cell 2; have k3 := R8.out.cell 3; have k4 := R8.out.cell 4; have q0 := J8.out.1.cell 0; have q1 := J8.out.1.cell 1; have q2 := J8.out.1.cell 2; have q3 := J8.out.1.cell 3; have q4 := J8.out.1.cell 4; have f0 := J8.out.1.free 0; have f1 := J8.out.1.free 1; have f2 := J8.out.1.free 2; have f3 := J8.out.1.free 3; have f4 := J8.out.1.free 4; clear hb8; dsimp only))
          all_goals (try rw [← HBO.out])
          all_goals go_wp2
          all_goals
            have R9 := hid (r5_set J8.out.1 (.string A) (.string ut) (.slice aq LN cq) (.slice none 0 0) (.string ⟨#[]⟩))
            have B9 := hid (r5_bel (b := w.heap.size) J8.out.2 (Nat.le_refl _) (.string A) (.string ut) (.slice aq LN cq) (.slice none 0 0) (.string ⟨#[]⟩))
            have O9 := hid (OwnHp.setCell (OwnHp.setCell (OwnHp.setCell (OwnHp.setCell (OwnHp.setCell O8.out ⟨w.heap.size, 0, none⟩ (.string A) (Nat.lt_succ_self _)) ⟨w.heap.size, 1, none⟩ (.string ut) (Nat.lt_succ_self _)) ⟨w.heap.size, 2, none⟩ (.slice aq LN cq) (Nat.lt_succ_self _)) ⟨w.heap.size, 3, none⟩ (.slice none 0 0) (Nat.lt_succ_self _)) ⟨w.heap.size, 4, none⟩ (.string ⟨#[]⟩) (Nat.lt_succ_self _))
            first
              | exact first_ret R9.out (O9.out.mono (Nat.le_succ _)) B9.out FF.out rfl rfl
              | exact first_ret R9.out.drew (OwnHp.mono (World.ownsRow.drew O9.out) (Nat.le_succ _)) B9.out.drew FF.out rfl rfl
end Go.Proofs.YtgoplcjjoiiagaaGreatDoor
namespace Go.Proofs.YtgoplcjjoiiagaaGreatDoor
open Go.RowKit Go.Shelf
/-! The program's request reader: lines, bytes. -/
def RdAt (W : World) (q : Nat) (D : ByteArray) (p ln : Nat) : Prop := RowAt W q 75 #[.string D, .int .i64 (p : Int), .int .i64 (ln : Int)]
section
variable (q : Nat) (D : ByteArray) (p ln : Nat) (w : World)
set_option maxHeartbeats 400000 in
theorem rLeft (h : RdAt w q D p ln) (hp : p ≤ D.size) (hd : D.size ≤ 1048576) :
    Calls Tryz.prog 30 #[.pointer (some ⟨q, 0, none⟩)] w fun e w' => e = .returned (.int .i64 ((D.size - p : Nat) : Int)) ∧ w' = w := by
  have h0 : w.cell? ⟨q, 0, none⟩ = some (.string D) := RowAt.cell h 0
  have h1 : w.cell? ⟨q, 1, none⟩ = some (.int .i64 (p : Int)) := RowAt.cell h 1
  have d0 : decide ((p : Int) < 0) = false := by simp
  have d1 : decide ((D.size : Int) < (p : Int)) = false := by simp; omega
  have E : Hid ((D.size : Int) - (p : Int) = ((D.size - p : Nat) : Int)) := by show _ = _; omega
  go_enter Tryz.func30, Tryz.ntmps30
  go_wp2
  go_ret
  exact ⟨by rw [← E.out]; rfl, rfl⟩
set_option maxHeartbeats 400000 in
theorem rByte_no (h : RdAt w q D p ln) (hp : p = D.size) (hd : D.size ≤ 1048576) :
    Calls Tryz.prog 64 #[.pointer (some ⟨q, 0, none⟩)] w fun e w' => e = .returned (.tuple #[.int .u8 0, .bool false]) ∧ w' = w := by
  have K := hid (rLeft q D p ln w h (by omega) hd)
  rw [show D.size - p = 0 by omega] at K
  clear hp
  go_enter Tryz.func64, Tryz.ntmps64
  go_wp2_with fail
  refine K.out.mono ?_
  rintro e w' ⟨rfl, rfl⟩
  go_wp2
  go_ret2
  exact ⟨rfl, rfl⟩
set_option maxRecDepth 20000 in
set_option maxHeartbeats 400000 in
theorem rByte_yes (h : RdAt w q D p ln) (hp : p < D.size) (hd : D.size ≤ 1048576) :
    Calls Tryz.prog 64 #[.pointer (some ⟨q, 0, none⟩)] w fun e w' => e = .returned (.tuple #[.int .u8 ((D[p]'hp).toNat : Int), .bool true]) ∧ RdAt w' q D (p + 1) ln ∧ w.grownBy w' (some q) := by
  have K := hid (rLeft q D p ln w h (by omega) hd)
  have z : (((D.size - p : Nat) : Int) == 0) = false := by simp; omega
  generalize ((D.size - p : Nat) : Int) = zz at K z
  have h0 : w.cell? ⟨q, 0, none⟩ = some (.string D) := RowAt.cell h 0
  have h1 : w.cell? ⟨q, 1, none⟩ = some (.int .i64 (p : Int)) := RowAt.cell h 1
  have f1 := RowAt.free h 1
  have i0 : (0 : Int) ≤ (p : Int) := by omega
  have i1 : (p : Int) < (D.size : Int) := by omega
  have H2 := hid (RowAt.set h 1 (.int .i64 ((p + 1 : Nat) : Int)))
  have HH := hid h
  clear h
  go_enter Tryz.func64, Tryz.ntmps64
  go_wp2_with fail
  refine K.out.mono ?_
  rintro e w' ⟨rfl, rfl⟩
  go_wp2_with fail
  try go_quiet (fail)
  go_wp2
  go_ret2
  refine ⟨rfl, ?_, ?_⟩
  · unfold RdAt
    rw [show ((p + 1 : Nat) : Int) = (p : Int) + 1 by omega]
    exact RowAt.set HH.out 1 _
  · first | exact grown_trans (grown_drewN _ _ _) grown_set | exact grown_set
set_option maxRecDepth 20000 in
set_option maxHeartbeats 400000 in
theorem rBytes_no (n : Nat) (h : RdAt w q D p ln) (hp : p ≤ D.size) (hd : D.size ≤ 1048576) (hn : D.size - p < n) :
    Calls Tryz.prog 100 #[.pointer (some ⟨q, 0, none⟩), .int .i64 (n : Int)] w fun e w' => e = .returned (.tuple #[.string ⟨#[]⟩, .bool false]) ∧ w' = w := by
  have K := hid (rLeft q D p ln w h hp hd)
  have d0 : decide ((n : Int) < 0) = false := by simp
  have d1 : decide (((D.size - p : Nat) : Int) < (n : Int)) = true := by simp; omega
  generalize ((D.size - p : Nat) : Int) = zz at K d1
  go_enter Tryz.func100, Tryz.ntmps100
  go_wp2_with fail
  refine K.out.mono ?_
  rintro e w' ⟨rfl, rfl⟩
  go_wp2
  go_ret2
  exact ⟨rfl, rfl⟩
set_option maxRecDepth 20000 in
set_option maxHeartbeats 1000000 in
theorem rBytes_yes (n : Nat) (h : RdAt w q D p ln) (hp : p + n ≤ D.size) (hd : D.size ≤ 1048576) :
    Calls Tryz.prog 100 #[.pointer (some ⟨q, 0, none⟩), .int .i64 (n : Int)] w fun e w' => e = .returned (.tuple #[.string (D.extract p (p + n)), .bool true]) ∧ RdAt w' q D (p + n) ln ∧ w.grownBy w' (some q) := by
  have K := hid (rLeft q D p ln w h (by omega) hd)
  have d0 : decide ((n : Int) < 0) = false := by simp
  have d1 : decide (((D.size - p : Nat) : Int) < (n : Int)) = false := by simp; omega
  generalize ((D.size - p : Nat) : Int) = zz at K d1
  by_cases hn : n = 0
  · subst hn
    have d1' : decide (zz < 0) = false := by simpa using d1
    have ee : Hid (D.extract p (p + 0) = ⟨#[]⟩) := by
      show _ = _
      apply ba_extL
      rw [ext_mid]
      simp
    go_enter Tryz.func100, Tryz.ntmps100
    go_wp2_with fail
    refine K.out.mono ?_
    rintro e w' ⟨rfl, rfl⟩
    go_wp2
    go_ret2
    exact ⟨by rw [ee.out]; rfl, h, below_grown (Below.refl _ _) _⟩
  · have d2 : ((n : Int) == 0) = false := by simp; omega
    have h0 : w.cell? ⟨q, 0, none⟩ = some (.string D) := RowAt.cell h 0
    have h1 : w.cell? ⟨q, 1, none⟩ = some (.int .i64 (p : Int)) := RowAt.cell h 1
    have hlt : q < w.heap.size := RowAt.lt h
    have hsl : ∀ wx, (Instr.slice 9 (.string D) (some (.int .i64 (p : Int))) (some (.int .i64 ((p : Int) + (n : Int)))) none).run Tryz.prog wx = .ok (.string (D.extract p (p + n))) wx := by
      intro wx
      rw [run_slice_string_if _ _ _ _ _ _ _ Tryz.underlying9, if_pos (by omega), if_pos (by omega)]
      rw [show ((p : Int) + (n : Int)).toNat = p + n by omega, Int.toNat_natCast]
    have HLE : Hid ((D.extract p (p + n)).size ≤ 281474976710656) := by show _ ≤ _; rw [ByteArray.size_extract]; omega
    have hwr : IntKind.i64.wrap ((p : Int) + (n : Int)) = (p : Int) + (n : Int) := by simp [IntKind.wrap, IntKind.bits, IntKind.signed]; omega
    have HH := hid h
    clear h
    go_enter Tryz.func100, Tryz.ntmps100
    go_wp2_with fail
    refine K.out.mono ?_
    rintro e w' ⟨rfl, rfl⟩
    go_wp2_with fail
    go_region_held3 (fun wx => wx.cell? ⟨q, 0, none⟩ = some (.string D) ∧ wx.cell? ⟨q, 1, none⟩ = some (.int .i64 (p : Int))) (first | go_keep | (go_split_ands; refine ⟨(hb.cell (by simpa using hlt)).trans ?_, (hb.cell (by simpa using hlt)).trans ?_⟩ <;> first | exact h0 | exact h1))
      ((go_at_call 99; refine (clone_any _ _ HLE.out).mono ?_; rintro e w1 ⟨rfl, hb⟩))
    have hb' : Below w'.heap.size w' w1 := ((Below.refl w'.heap.size w').drew).trans hb
    have R1 := hid (RowAt.below HH.out hb' hlt)
    have HG : Hid (w'.grownBy w1 (some q)) := below_grown hb' _
    have p1 := R1.out.cell 1
    have f1 := R1.out.free 1
    clear hb hb'
    go_wp2
    go_ret2
    refine ⟨rfl, ?_, grown_trans HG.out grown_set⟩
    unfold RdAt
    rw [show ((p + n : Nat) : Int) = (p : Int) + (n : Int) by omega]
    exact R1.out.set 1 _
/-- what takeLine finds -/
def LnO (D : ByteArray) (p : Nat) (t : ByteArray) (ok : Bool) (p' : Nat) : Prop :=
  (ok = false ∧ cutP [10] (D.data.toList.drop p) = none ∧ p' = p) ∨ (ok = true ∧ cutP [10] (D.data.toList.drop p) = some (t.data.toList, D.data.toList.drop p') ∧ p' = p + t.size + 1 ∧ p' ≤ D.size)
set_option maxRecDepth 20000 in
set_option maxHeartbeats 1000000 in
theorem rLine (h : RdAt w q D p ln) (hp : p ≤ D.size) (hd : D.size ≤ 1048576) (hl : ln ≤ 1048576) (hv : RdV w) (hG : 1 ≠ q) :
    Calls Tryz.prog 95 #[.pointer (some ⟨q, 0, none⟩)] w fun e w' => (∃ t ok p', e = .returned (.tuple #[.string t, .bool ok]) ∧ LnO D p t ok p' ∧ t.size ≤ D.size ∧ RdAt w' q D p' (ln + 1)) ∧ w.grownBy w' (some q) := by
  have c2 : w.cell? ⟨q, 2, none⟩ = some (.int .i64 (ln : Int)) := RowAt.cell h 2
  have f2 := RowAt.free h 2
  obtain ⟨W1, hW1⟩ : ∃ W, W = w.setCell ⟨q, 2, none⟩ (.int .i64 ((ln : Int) + 1)) := ⟨_, rfl⟩
  have R1 : Hid (RowAt W1 q 75 #[.string D, .int .i64 (p : Int), .int .i64 ((ln : Int) + 1)]) := by rw [hW1]; exact RowAt.set h 2 _
  have G1 : Hid (w.grownBy W1 (some q)) := by rw [hW1]; exact grown_set
  obtain ⟨m, hm⟩ := hv.mx
  have mx : Hid (W1.cell? ⟨1, 0, none⟩ = some (.int .i64 m)) := by
    show _ = _
    rw [hW1, cell_same (Below.heap_setCell w _ _ _ hG)]
    exact hm
  obtain ⟨R, hR⟩ : ∃ R, R = D.extract p D.size := ⟨_, rfl⟩
  have hRl : R.data.toList = D.data.toList.drop p := by rw [hR]; exact ext_end D p
  have hRz : R.size ≤ D.size := by rw [hR, ByteArray.size_extract]; omega
  obtain ⟨a, b, f, hc⟩ : ∃ a b f, cutV [10] R.data.toList = (a, b, f) := ⟨_, _, _, rfl⟩
  have KC : ∀ n, Hid (Calls Tryz.prog 97 #[.string R, .string ⟨#[10]⟩] (W1.drewN n) fun e w' => e = .returned (.tuple #[.string (ofL a), .string (ofL b), .bool f]) ∧ ∃ k, w' = (W1.drewN n).drewN k) := fun n => by
    have h9 := Any.strings_Cut rd_Lays_n145 R ⟨#[10]⟩ m (W1.drewN n) (by omega) mx.out
    rw [cut_cutV] at h9
    have e1 : cutV (⟨#[10]⟩ : ByteArray).data.toList R.data.toList = (a, b, f) := hc
    rw [e1] at h9
    exact h9
  have r0 := R1.out.cell 0
  have r1 := R1.out.cell 1
  have i0 : (0 : Int) ≤ (p : Int) := by omega
  have i1 : (p : Int) ≤ (D.size : Int) := by omega
  have hsl : ∀ wx, (Instr.slice 9 (.string D) (some (.int .i64 (p : Int))) none none).run Tryz.prog wx = .ok (.string R) wx := fun wx => by
    rw [run_slice_string_from_if _ _ _ _ _ Tryz.underlying9, if_pos (by omega), show ((p : Int)).toNat = p by omega, hR]
  have HC := hid hc
  have HRl := hid hRl
  have HRz := hid hRz
  have HL : Hid (((ln + 1 : Nat) : Int) = (ln : Int) + 1) := by show _ = _; omega
  have HD := hid hd
  clear hc hR hRl hm hG hv h hRz
  cases f with
  | false =>
    have L : Hid (LnO D p (ofL a) false p ∧ (ofL a).size ≤ D.size) := by
      have h1 := HC.out
      unfold cutV at h1
      cases hq : cutP [10] R.data.toList with
      | none =>
        rw [hq] at h1
        cases h1
        exact ⟨.inl ⟨rfl, by rw [← HRl.out]; exact hq, rfl⟩, by rw [ofL_size, baLen]; exact HRz.out⟩
      | some x => rw [hq] at h1; cases h1
    generalize ofL a = A at KC L
    generalize ofL b = B at KC
    go_enter Tryz.func95, Tryz.ntmps95
    go_wp2_with fail
    rw [← hW1]
    clear hW1
    go_quiet ((go_at_call 97; exact Calls.quiet_of (KC _).out))
    go_wp2
    go_ret2
    exact ⟨⟨A, false, p, rfl, L.out.1, L.out.2, by unfold RdAt; rw [HL.out]; exact R1.out.drewN _⟩, grown_trans G1.out (grown_drewN _ _ _)⟩
  | true =>
    have L : Hid (LnO D p (ofL a) true (p + (ofL a).size + 1) ∧ (ofL a).size ≤ D.size ∧ p + (ofL a).size + 1 ≤ D.size) := by
      have h1 := HC.out
      unfold cutV at h1
      cases hq : cutP [10] R.data.toList with
      | none => rw [hq] at h1; cases h1
      | some x =>
        rw [hq] at h1
        obtain ⟨a', b'⟩ := x
        have e2 : a' = a ∧ b' = b := by simpa using h1
        obtain ⟨rfl, rfl⟩ := e2
        have hl := cutP_parts hq
        have hz := congrArg List.length hl
        have hz2 := HRz.out
        have hrl := congrArg List.length HRl.out
        rw [List.length_drop, baLen, baLen] at hrl
        simp at hz
        have e3 : b' = D.data.toList.drop (p + (ofL a').size + 1) := by
          rw [ofL_size, show p + a'.length + 1 = p + (a'.length + 1) by omega, ← List.drop_drop, ← HRl.out, hl]
          simp
        have hpz : p + (ofL a').size + 1 ≤ D.size := by rw [ofL_size]; omega
        exact ⟨.inr ⟨rfl, by rw [← HRl.out, hq, ofL_l, ← e3], rfl, hpz⟩, by omega, hpz⟩
    have HL2 := hid L.out.2.2
    have hlz : p + (ofL a).size + 1 ≤ D.size := L.out.2.2
    generalize ofL a = A at KC L HL2 hlz
    generalize ofL b = B at KC
    have rr1 : ∀ n, (W1.drewN n).cell? ⟨q, 1, none⟩ = some (.int .i64 (p : Int)) := fun n => R1.out.cell 1
    have ff1 : ∀ n, (W1.drewN n).frozen? ⟨q, 1, none⟩ = false := fun n => R1.out.free 1
    have HE : Hid (((p + A.size + 1 : Nat) : Int) = (p : Int) + ((A.size : Int) + 1)) := by show _ = _; omega
    go_enter Tryz.func95, Tryz.ntmps95
    go_wp2_with fail
    rw [← hW1]
    clear hW1
    go_quiet ((go_at_call 97; exact Calls.quiet_of (KC _).out))
    go_wp2
    go_ret2
    exact ⟨⟨A, true, p + A.size + 1, rfl, L.out.1, L.out.2.1, by unfold RdAt; rw [HL.out, HE.out]; exact (R1.out.drewN _).set 1 _⟩, grown_trans (grown_trans G1.out (grown_drewN _ _ _)) grown_set⟩
end
end Go.Proofs.YtgoplcjjoiiagaaGreatDoor
