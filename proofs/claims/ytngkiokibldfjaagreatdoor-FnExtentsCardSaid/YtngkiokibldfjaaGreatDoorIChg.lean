import Derived.Test.YtngkiokibldfjaaGreatDoorPT
import Derived.Test.YtngkiokibldfjaaGreatDoorIStl
import Derived.Test.YtngkiokibldfjaaGreatDoorPV
import Derived.Deep.RegionLaw
import Derived.Deep.CutRange
namespace Go.Proofs.YtngkiokibldfjaaGreatDoor
open Go.RowKit
set_option linter.unusedVariables false
/-! The program's change: other data in the shelf. -/
/-- the shelf over data d, of which sy bytes are synced -/
structure ShS (ea eb : Addr) (X : Nat) (d : ByteArray) (sy : Nat) (NK : List ByteArray) (w : World) (hv pv rv lv : Value) (n m mb : Nat) (P : List (Fr × Nat)) : Prop where
  tb : Tbl ⟨.int .i64 (sy : Nat), rv, .map (some mb), lv, .int .i64 (hldN d : Nat)⟩ (X + 1) X d w hv pv n m
  er : Errs w ea eb
  lo : ErrsLo (X - 1) ea eb
  nm : NumsAt w mb NK
  mx : X ≤ mb + 1
  fl : OwnFl w (X + 1) rv P
  al : P.map Prod.fst = allR d
  fk : FlK d NK P
  ls : OwnNums w (X + 1) 3 .i64 lv (NK.map (lxA d))
  bd : d.size ≤ 300000
def ShAt (ea eb : Addr) (X : Nat) (d : ByteArray) (sy : Nat) (NK : List ByteArray) (w : World) : Prop := ∃ hv pv rv lv n m mb P, ShS ea eb X d sy NK w hv pv rv lv n m mb P
/-- a search's place parts the records at q -/
theorem bs_part {d : ByteArray} {P : List (Fr × Nat)} (hA : P.map Prod.fst = allR d) {q i : Nat} (hq : q ≤ 300000) (hi : i ≤ P.length) (h1 : 0 < i → (((P.getD (i - 1) fr0).1.at' : Nat) : Int) < (q : Int)) (h2 : i < P.length → (q : Int) ≤ (((P.getD i fr0).1.at' : Nat) : Int)) :
    (P.take i).map Prod.fst = rg d q 0 ∧ (P.drop i).map Prod.fst = rg d (300000 - q) q := by
  have hs := allR_split d q hq
  rw [← hA] at hs
  have hl := congrArg List.length hs
  rw [List.length_map, List.length_append] at hl
  have get : ∀ k, k < P.length → ∃ f : Fr, (P.getD k fr0).1 = f ∧ (rg d q 0 ++ rg d (300000 - q) q)[k]? = some f := fun k hk => by
    refine ⟨_, rfl, ?_⟩
    rw [← hs, List.getElem?_map, List.getD_eq_getElem?_getD, List.getElem?_eq_getElem hk]
    rfl
  have e : i = (rg d q 0).length := by
    rcases Nat.lt_trichotomy i (rg d q 0).length with c | c | c
    · obtain ⟨f, hf, hk⟩ := get i (by omega)
      rw [List.getElem?_append_left c] at hk
      have := (rg_mem d _ _ f (List.mem_of_getElem? hk)).2.1
      have := h2 (by omega)
      rw [hf] at this
      omega
    · exact c
    · obtain ⟨f, hf, hk⟩ := get (i - 1) (by omega)
      rw [List.getElem?_append_right (by omega)] at hk
      have := (rg_mem d _ _ f (List.mem_of_getElem? hk)).1
      have := h1 (by omega)
      rw [hf] at this
      omega
  rw [List.map_take, List.map_drop, hs, e]
  exact ⟨List.take_left, List.drop_left⟩
/-- the sums of what has not changed -/
theorem hd_same {d d' : ByteArray} {fr t : Nat} (h : Chg d d' fr t) {k : Nat} (hk : k ≤ fr) : hd d' k = hd d k := by
  unfold hd
  congr 1
  apply List.ext_getElem?
  intro j
  by_cases c : j < k
  · rw [List.getElem?_take_of_lt c, List.getElem?_take_of_lt c]
    exact h j (.inl (by omega))
  · rw [List.getElem?_take_eq_none (by omega), List.getElem?_take_eq_none (by omega)]
theorem hdL_same {d d' : ByteArray} {fr t n : Nat} (h : Chg d d' fr t) : (hdL d n).take (min n (fr + 1)) = hdL d' (min n (fr + 1)) := by
  unfold hdL
  rw [← List.map_take, List.take_range, show min (min n (fr + 1)) n = min n (fr + 1) by omega]
  apply List.map_congr_left
  intro k hk
  rw [List.mem_range] at hk
  exact (hd_same h (by omega)).symm
/-- what change leaves -/
def ChgQ (ea eb : Addr) (X : Nat) (d' : ByteArray) (sy : Nat) (NK : List ByteArray) (w : World) (e : Ending) (w' : World) : Prop :=
  Ret e ∧ (∃ NK', ShAt ea eb X d' sy NK' w' ∧ Ext NK NK' ∧ NK'.length ≤ NK.length + 300000) ∧ TG [72, 2, 3, 112] true X w w'
/-- ahead of settle -/
structure ChM (ea eb : Addr) (X : Nat) (d' : ByteArray) (sy : Nat) (NK : List ByteArray) (w : World) (mb : Nat) (lv hl : Value) (W : World) (rv : Value) (P : List (Fr × Nat)) (NK' : List ByteArray) (hv pv : Value) (n m : Nat) : Prop where
  tb : Tbl ⟨.int .i64 (sy : Nat), rv, .map (some mb), lv, hl⟩ (X + 1) X d' W hv pv n m
  er : Errs W ea eb
  nm : NumsAt W mb NK'
  fl : OwnFl W (X + 1) rv P
  al : P.map Prod.fst = allR d'
  fk : FlK d' NK' P
  xt : Ext NK NK'
  ln : NK'.length ≤ NK.length + 300000
  tg : TG [72, 2, 3, 112] true X w W
theorem chm_of {ea eb : Addr} {X : Nat} {d d' : ByteArray} {sy fr t : Nat} {NK : List ByteArray} {w W w5 w6 : World} {hv pv rv lv hl : Value} {n m mb : Nat} {P V : List (Fr × Nat)} {F E i j : Nat} {v rv6 : Value} {NK5 : List ByteArray} {hv5 pv5 : Value} {n5 m5 : Nat}
    (S : ShS ea eb X d sy NK w hv pv rv lv n m mb P) (hch : Chg d d' fr t) (h1 : fr ≤ t) (h2 : t ≤ 300000) (hd' : d'.size ≤ 300000) (hF : F = fr - 100210) (hE : E = min t d'.size) (hFE : F ≤ E) (hXw : X + 1 ≤ w.heap.size) (T4 : TG [72] false X w W) (F4 : OwnFl W (X + 1) rv P)
    (hI : RaS ea eb ⟨.int .i64 (sy : Nat), rv, .map (some mb), lv, hl⟩ X mb d' NK W w5 v V NK5 hv5 pv5 n5 m5) (hV : V.map Prod.fst = rg d' (E - F) F)
    (IP : (P.take i).map Prod.fst = rg d F 0) (JP : (P.drop j).map Prod.fst = rg d (300000 - t) t) (g6 : w5.grownBy w6 rv.ownBlock) (o6 : OwnFl w6 (X + 1) rv6 (P.take i ++ V ++ P.drop j)) :
    ChM ea eb X d' sy NK w mb lv hl (w6.setCell ⟨X, 4, none⟩ rv6) rv6 (P.take i ++ V ++ P.drop j) NK5 hv5 pv5 n5 m5 := by
  have f5 : OwnFl w5 (X + 1) rv P := hI.tg.own F4 (by decide)
  have sz5 : X ≤ w5.heap.size := by have := T4.size; have := hI.tg.size; omega
  have t6 : TG [112] false X w5 w6 := TG.grown false g6 sz5 fun k hk => by
    obtain ⟨q1, _, cs, hr⟩ := orRow f5 hk
    exact ⟨by omega, _, cs, hr, by simp⟩
  have b6 := hI.tb.tg t6 (by decide) (by decide)
  have g7 : w6.grownBy (w6.setCell ⟨X, 4, none⟩ rv6) (some X) := grown_set
  have t7 : TG [72] false X w6 (w6.setCell ⟨X, 4, none⟩ rv6) := TG.grown false g7 (Nat.le_trans sz5 t6.size) fun k e => by
    obtain rfl := Option.some.inj e
    exact ⟨Nat.le_refl _, _, _, b6.blk, by simp⟩
  refine ⟨⟨RowAt.set b6.blk 4 rv6, b6.lo, Nat.le_trans b6.bs t7.size, t7.own b6.hh (by decide), t7.own b6.hp (by decide), b6.sep, b6.hn, b6.hm⟩, t7.errs (t6.errs hI.er S.lo sz5) S.lo (Nat.le_trans sz5 t6.size), t7.nums (t6.nums hI.nm), t7.own o6 (by decide), ?_, ?_, hI.xt, ?_, ?_⟩
  · rw [List.map_append, List.map_append, IP, hV, JP, hch.all h1 h2, ← hF]
    congr 2
    rcases Nat.le_total d'.size t with q | q
    · exact (rg_cut d' (t - F) F (E - F) (by omega) (by omega)).symm
    · rw [show E = t by omega]
  · intro p hp
    have old : ∀ {p : Fr × Nat}, p ∈ P → (p.1.at' < fr - 100210 ∨ t ≤ p.1.at') → NK5[p.2]? = some (rcK d' (some p.1)) := fun {p} hp ha => by
      have hm : p.1 ∈ allR d := by rw [← S.al]; exact List.mem_map_of_mem hp
      rw [hch.key (rg_mem d _ _ _ hm).2.2 ha]
      exact hI.xt _ _ (S.fk p hp)
    rcases List.mem_append.1 hp with hp | hp
    · rcases List.mem_append.1 hp with hp | hp
      · refine old (List.mem_of_mem_take hp) (.inl ?_)
        have hm : p.1 ∈ rg d F 0 := by rw [← IP]; exact List.mem_map_of_mem hp
        have := (rg_mem d _ _ _ hm).2.1
        omega
      · exact hI.fk p hp
    · refine old (List.mem_of_mem_drop hp) (.inr ?_)
      have hm : p.1 ∈ rg d (300000 - t) t := by rw [← JP]; exact List.mem_map_of_mem hp
      exact (rg_mem d _ _ _ hm).1
  · have h9 := hI.ln
    have := congrArg List.length hV
    rw [List.length_map] at this
    have := rg_len d' (E - F) F
    omega
  · exact (T4.weak (by decide) (by simp)).trans ((hI.tg.weak (by decide) (by simp)).lowX (Nat.le_refl _) |>.trans ((t6.weak (by decide) (by simp)).trans (t7.weak (by decide) (by simp))))
set_option maxRecDepth 20000 in
set_option maxHeartbeats 4000000 in
theorem iChange (ea eb : Addr) (X : Nat) (d d' : ByteArray) (sy fr t : Nat) (NK : List ByteArray) (hNK : NK.length ≤ 900000000) (hd' : d'.size ≤ 300000) (hch : Chg d d' fr t) (h1 : fr ≤ t) (h2 : t ≤ 300000) (h3 : fr ≤ d'.size) (w : World) (h : ShAt ea eb X d sy NK w) :
    Calls Tryz.prog 46 #[.pointer (some ⟨X, 0, none⟩), .string d', .int .i64 (fr : Int), .int .i64 (t : Int)] w fun e w' => ChgQ ea eb X d' sy NK w e w' := by
  obtain ⟨hv, pv, rv, lv, n, m, mb, P, hS⟩ := h
  have S := hid hS
  have HC := hid hch
  have HB := hid (And.intro h1 (And.intro h2 (And.intro h3 hd')))
  have HN := hid hNK
  have XW : Hid (X + 1 ≤ w.heap.size) := hS.tb.blk.lt
  obtain ⟨aH, cH, hhv⟩ := orSlice hS.tb.hh
  rw [hdL_len] at hhv
  have HHV := hid hhv
  have x0 : w.cell? ⟨X, 0, none⟩ = some (.string d) := RowAt.cell hS.tb.blk 0
  have f0 := RowAt.free hS.tb.blk 0
  obtain ⟨W1, hW1⟩ : ∃ W, W = w.setCell ⟨X, 0, none⟩ (.string d') := ⟨_, rfl⟩
  have R1 : Hid (RowAt W1 X 72 #[.string d', .slice aH n cH, pv, .int .i64 (sy : Nat), rv, .map (some mb), lv, .int .i64 (hldN d : Nat)]) := by rw [hW1, ← hhv]; exact RowAt.set hS.tb.blk 0 _
  have G1 : Hid (w.grownBy W1 (some X)) := by rw [hW1]; exact grown_set
  have T1 : Hid (TG [72] false X w W1) := TG.grown false G1.out (Nat.le_of_lt hS.tb.blk.lt) fun g e => by
    obtain rfl := Option.some.inj e
    exact ⟨Nat.le_refl _, _, _, hS.tb.blk, by simp⟩
  have hcap : n ≤ cH ∧ cH ≤ 9223372036854775807 := by
    rcases hS.tb.hh.2 with ⟨h0, hz⟩ | ⟨g, cap, cur, he, _, _, hnc, hm, _⟩
    · rw [hhv] at h0; rw [hdL_len] at hz; injection h0 with _ _ e3; omega
    · rw [hhv] at he; rw [hdL_len] at hnc; injection he with _ _ e3; unfold maxLen at hm; omega
  have KF := hid (iForget X fr n cH aH (.string d') pv (.int .i64 (sy : Nat)) rv (.map (some mb)) lv (.int .i64 (hldN d : Nat)) hcap.1 hcap.2 (by omega) W1 R1.out)
  clear hS hch h1 h2 h3 hd' hNK hhv hcap
  go_enter Tryz.func46, Tryz.ntmps46
  go_upto_region 1 with fail
  rw [← hW1]
  clear hW1 x0 f0
  go_wp2_with fail
  refine KF.out.mono ?_
  rintro e W2 ⟨⟨v0, rfl⟩, g2, r2⟩
  have T2 : Hid (TG [72] false X w W2) := T1.out.trans (TG.grown false g2 (Nat.le_of_lt R1.out.lt) fun g e => by
    obtain rfl := Option.some.inj e
    exact ⟨Nat.le_refl _, _, _, R1.out, by simp⟩)
  obtain ⟨hv2, hhv2⟩ : ∃ v, v = Value.slice aH (min n (fr + 1)) cH := ⟨_, rfl⟩
  rw [← hhv2] at r2
  obtain ⟨nk, hnk⟩ : ∃ k, k = min n (fr + 1) := ⟨_, rfl⟩
  have TB2 : Hid (Tbl ⟨.int .i64 (sy : Nat), rv, .map (some mb), lv, .int .i64 (hldN d : Nat)⟩ (X + 1) X d' W2 hv2 pv nk m) := by
    have T := S.out.tb
    have hh := T2.out.own T.hh (by decide)
    rw [HHV.out] at hh
    refine ⟨r2, T.lo, Nat.le_trans T.bs T2.out.size, ?_, T2.out.own T.hp (by decide), fun k hk => T.sep k ?_, ?_, T.hm⟩
    · rw [hhv2, hnk, ← hdL_same HC.out]
      exact OwnNums.pre hh (by omega)
    · rw [HHV.out]
      rw [hhv2] at hk
      cases aH with
      | none => cases hk
      | some a => exact hk
    · have := HB.out.2.2.1; omega
  have E2 : Hid (Errs W2 ea eb) := T2.out.errs S.out.er S.out.lo (by have := XW.out; omega)
  have M2 : Hid (NumsAt W2 mb NK) := T2.out.nums S.out.nm
  have F2 : Hid (OwnFl W2 (X + 1) rv P) := T2.out.own S.out.fl (by decide)
  obtain ⟨F, hF⟩ : ∃ F, F = fr - 100210 := ⟨_, rfl⟩
  have HF := hid hF
  have hmax : max (0 : Int) ((fr : Int) - 100211 + 1) = (F : Int) := by omega
  have wf1 : IntKind.i64.wrap ((fr : Int) - 100211) = (fr : Int) - 100211 := by rw [IntKind.wrap_i64]; have := HB.out; omega
  have wf2 : IntKind.i64.wrap ((fr : Int) - 100211 + 1) = (fr : Int) - 100211 + 1 := by rw [IntKind.wrap_i64]; have := HB.out; omega
  have PN : Hid (P.length ≤ 300000) := by
    have := congrArg List.length S.out.al
    rw [List.length_map] at this
    have h2 := rg_len d 300000 0
    unfold allR at this
    show _ ≤ _
    omega
  have KB := fun (q : Int) W hO => hid (iBSF (X + 1) rv P q (by have := PN.out; omega) W hO)
  have x4 : W2.cell? ⟨X, 4, none⟩ = some rv := RowAt.cell TB2.out.blk 4
  have HNK2 := hid hnk
  clear R1 G1 T1 KF g2 r2 hhv2 hnk hF
  go_wp2_with fail
  refine (KB (F : Int) _ F2.out).out.mono ?_
  rintro e W3 ⟨⟨i, bi, rfl, hi, hi1, hi2⟩, hb3⟩
  have B3 := hid hb3
  have IP := hid (bs_part S.out.al (q := F) (by have := HB.out; have := HF.out; omega) hi hi1 hi2)
  have HI := hid hi
  have x43 : W3.cell? ⟨X, 4, none⟩ = some rv := RowAt.cell (TB2.out.far hb3).blk 4
  clear hi hi1 hi2 hb3 x4
  go_wp2_with fail
  refine (KB (t : Int) _ (OwnFl.belowA F2.out B3.out)).out.mono ?_
  rintro e W4 ⟨⟨j, bj, rfl, hj, hj1, hj2⟩, hb4⟩
  have B4 : Hid (Below W2.heap.size W2 W4) := B3.out.trans (hb4.mono B3.out.size)
  have JP := hid (bs_part S.out.al (q := t) HB.out.2.1 hj hj1 hj2)
  have HJ := hid hj
  clear hj hj1 hj2 hb4 x43 B3 KB hmax wf1 wf2
  have T4 : Hid (TG [72] false X w W4) := T2.out.trans (TG.of_below _ _ B4.out (by have := XW.out; have := T2.out.size; omega))
  have TB4 := hid (TB2.out.far B4.out)
  have E4 := hid (E2.out.below B4.out)
  have M4 := hid (M2.out.below B4.out)
  have F4 := hid (OwnFl.belowA F2.out B4.out)
  clear TB2 E2 M2 F2 B4 T2
  obtain ⟨E, hE⟩ : ∃ E, E = min t d'.size := ⟨_, rfl⟩
  have HE := hid hE
  have hminE : min (t : Int) (d'.size : Int) = (E : Int) := by omega
  have FE : Hid (F ≤ E) := by have := HB.out; have := HF.out; show _ ≤ _; omega
  have KRA : ∀ W, Below W4.heap.size W4 W → Hid (Calls Tryz.prog 68 #[.pointer (some ⟨X, 0, none⟩), .int .i64 (F : Int), .int .i64 (E : Int)] W fun r w5 => RaQ ea eb ⟨.int .i64 (sy : Nat), rv, .map (some mb), lv, .int .i64 (hldN d : Nat)⟩ X mb d' NK F E W r w5) := fun W hb =>
    hid (iReadAll ea eb ⟨.int .i64 (sy : Nat), rv, .map (some mb), lv, .int .i64 (hldN d : Nat)⟩ X mb d' NK F E FE.out (by have := HE.out; omega) HB.out.2.2.2 S.out.lo hv2 pv nk m W (E4.out.below hb) (TB4.out.far hb) rfl (M4.out.below hb) S.out.mx (by have := HN.out; omega))
  have KRP : ∀ W w5 v V NK5 hv5 pv5 n5 m5, Below W4.heap.size W4 W → RaS ea eb ⟨.int .i64 (sy : Nat), rv, .map (some mb), lv, .int .i64 (hldN d : Nat)⟩ X mb d' NK W w5 v V NK5 hv5 pv5 n5 m5 → V.map Prod.fst = rg d' (E - F) F →
      Hid (Calls Tryz.prog 67 #[rv, .int .i64 (i : Int), .int .i64 (j : Int), v] w5 fun r w6 => ∃ a6 l6 c6, r = .returned (.slice a6 l6 c6) ∧ w6.cell? ⟨X, 4, none⟩ = some rv ∧ w6.frozen? ⟨X, 4, none⟩ = false ∧ ChM ea eb X d' sy NK w mb lv (.int .i64 (hldN d : Nat)) (w6.setCell ⟨X, 4, none⟩ (.slice a6 l6 c6)) (.slice a6 l6 c6) (P.take i ++ V ++ P.drop j) NK5 hv5 pv5 n5 m5) := fun W w5 v V NK5 hv5 pv5 n5 m5 hb hI hV => hid (by
    have FW := OwnFl.belowA F4.out hb
    have TW : TG [72] false X w W := T4.out.trans (TG.of_below _ _ hb (by have := XW.out; have := T4.out.size; omega))
    have f5 : OwnFl w5 (X + 1) rv P := hI.tg.own FW (by decide)
    have VL : V.length ≤ 300000 := by
      have := congrArg List.length hV
      rw [List.length_map] at this
      have := rg_len d' (E - F) F
      have := HE.out
      have := HB.out
      omega
    have hij : i ≤ j := by
      have q1 := congrArg List.length IP.out.1
      have q2 := congrArg List.length JP.out.1
      rw [List.length_map, List.length_take] at q1 q2
      have e : rg d t 0 = rg d F 0 ++ rg d (t - F) F := by
        have := rg_add d F (t - F) 0
        rw [Nat.zero_add, show F + (t - F) = t by have := HF.out; have := HB.out; omega] at this
        exact this
      have := congrArg List.length e
      rw [List.length_append] at this
      have := HI.out
      have := HJ.out
      omega
    refine (iReplace (X + 1) W.heap.size P.length V.length i j rv v (flL P) (flL V) hij HJ.out (by have := PN.out; omega) (by omega) w5 (by have := XW.out; have := TW.size; have := hI.tg.size; omega) f5 hI.ow (fun e => hI.nl (List.eq_nil_of_length_eq_zero e)) (fun g hg q => ?_) (flL_one P) (flL_one V)).mono ?_
    · have a1 := (orRow FW hg).2.1
      have a2 := (orRow hI.ow q).1
      omega
    · rintro e w6 ⟨v6, rfl, o6, g6⟩
      obtain ⟨a6, c6, rfl⟩ := orSlice o6
      have t6 : TG [112] false X w5 w6 := TG.grown false g6 (by have := XW.out; have := TW.size; have := hI.tg.size; omega) fun k hk => by
        obtain ⟨q1, _, cs, hr⟩ := orRow f5 hk
        exact ⟨by omega, _, cs, hr, by simp⟩
      have b6 := hI.tb.tg t6 (by decide) (by decide)
      have oF : OwnFl w6 (X + 1) (.slice a6 (i + V.length + (P.length - j)) c6) (P.take i ++ V ++ P.drop j) := by
        unfold OwnFl
        have el : (P.take i ++ V ++ P.drop j).length = i + V.length + (P.length - j) := by
          have := HI.out
          simp only [List.length_append, List.length_take, List.length_drop]
          omega
        rw [el, flL_app, flL_app, ← flL_take, ← flL_drop]
        exact o6
      exact ⟨a6, _, c6, rfl, RowAt.cell b6.blk 4, RowAt.free b6.blk 4, chm_of S.out HC.out HB.out.1 HB.out.2.1 HB.out.2.2.2 HF.out HE.out FE.out XW.out TW FW hI hV IP.out.1 JP.out.2 g6 oF⟩)
  have KZ := fun W h => hid (iSize X d' W h)
  have x0 : W4.drew.cell? ⟨X, 0, none⟩ = some (.string d') := RowAt.cell TB4.out.blk 0
  have x4 : W4.drew.cell? ⟨X, 4, none⟩ = some rv := RowAt.cell TB4.out.blk 4
  have b4 : Hid (Below W4.heap.size W4 W4.drew) := (Below.refl _ _).drew
  have K5 : ∀ r w5, RaQ ea eb ⟨.int .i64 (sy : Nat), rv, .map (some mb), lv, .int .i64 (hldN d : Nat)⟩ X mb d' NK F E W4.drew r w5 → w5.cell? ⟨X, 4, none⟩ = some rv := fun r w5 ⟨v, V, NK5, hv5, pv5, n5, m5, _, hI, _⟩ => RowAt.cell hI.tb.blk 4
  have HK5 := hid K5
  clear hE K5
  go_upto_region 5 with fail
  go_cut [] from 46 to 62 (fun wx => ∃ rv' P' NK5 hv5 pv5 n5 m5, ChM ea eb X d' sy NK w mb lv (.int .i64 (hldN d : Nat)) wx rv' P' NK5 hv5 pv5 n5 m5)
  case first =>
    go_region_law (first
      | (go_simp; go_at_call 69; refine (KZ W4.drew x0).out.mono ?_; rintro e5 w5 ⟨rfl, hw⟩; obtain rfl := hw.symm)
      | (go_simp; go_at_call 68; refine (KRA W4.drew b4.out).out.mono ?_; rintro e5 w5 hQ5; have y4 := HK5.out _ _ hQ5; obtain ⟨v5, V, NK5, hv5, pv5, n5, m5, rfl, hI5, hV5⟩ := hQ5; have I5 := hid hI5; have V5 := hid hV5; clear hI5 hV5)
      | (go_simp; go_at_call 67; refine (KRP W4.drew w5 v5 V NK5 hv5 pv5 n5 m5 b4.out I5.out V5.out).out.mono ?_; rintro e6 w6 ⟨a6, l6, c6, rfl, z4, zf, hM6⟩; have M6 := hid hM6; clear hM6 y4))
    all_goals go_wp2
    all_goals go_meet
    all_goals exact ⟨_, _, _, _, _, _, _, M6.out⟩
  case rest =>
    obtain ⟨rv', P', NK5, hv5, pv5, n5, m5, hM⟩ := hcut
    have M := hid hM
    have XL : Hid (X + 1 ≤ wc.heap.size) := hM.tb.blk.lt
    have KT := hid (iSettle X mb d' HB.out.2.2.2 hv5 pv5 (.int .i64 (sy : Nat)) rv' lv (.int .i64 (hldN d : Nat)) NK5 (by have := hM.ln; have := HN.out; omega) P' wc hM.tb.blk hM.nm S.out.mx hM.fl hM.al hM.fk)
    clear hM KRA KRP KZ x0 x4 b4 HK5 TB4 E4 M4 F4 IP JP
    go_wp2_with fail
    refine KT.out.mono ?_
    rintro e w9 ⟨⟨v9, lv9, rfl, hr9, hl9⟩, t9⟩
    have FIN : Hid (ChgQ ea eb X d' sy NK w (.returned (.tuple #[])) w9) := by
      have T := M.out.tb
      have sx : X ≤ wc.heap.size := by have := XL.out; omega
      refine ⟨⟨_, rfl⟩, ⟨NK5, ⟨hv5, pv5, rv', lv9, n5, m5, mb, P', ⟨hr9, T.lo, Nat.le_trans T.bs t9.size, t9.own T.hh (by decide), t9.own T.hp (by decide), T.sep, T.hn, T.hm⟩, t9.errs M.out.er S.out.lo sx, S.out.lo, t9.nums M.out.nm, S.out.mx, t9.own M.out.fl (by decide), M.out.al, M.out.fk, hl9, HB.out.2.2.2⟩, M.out.xt, M.out.ln⟩, M.out.tg.trans (t9.weak (by decide) (by simp))⟩
    clear hr9 hl9 t9 KT M
    go_wp2
    go_end0
    exact FIN.out
end Go.Proofs.YtngkiokibldfjaaGreatDoor
