import Derived.Test.YtngkiokibldfjaaGreatDoorIChg
import Derived.Test.YtngkiokibldfjaaGreatDoorPJ
import Derived.Test.YtngkiokibldfjaaGreatDoorPO
import Derived.Test.YtngkiokibldfjaaGreatDoorPK
import Derived.Deep.RegionLaw
import Derived.Deep.RegionHeld3
namespace Go.Proofs.YtngkiokibldfjaaGreatDoor
open Go.RowKit
set_option linter.unusedVariables false
/-! The shelf's state: what its methods lean on. -/
abbrev tgA : List TypeId := [72, 2, 3, 112]
/-- the shelf behind a method -/
def ShQ (ea eb : Addr) (X : Nat) (d' : ByteArray) (sy' : Nat) (NK : List ByteArray) (w w' : World) : Prop := (∃ NK', ShAt ea eb X d' sy' NK' w' ∧ Ext NK NK' ∧ NK'.length ≤ NK.length + 300000) ∧ TG tgA true X w w'
theorem ShAt.size {ea eb : Addr} {X : Nat} {d : ByteArray} {sy : Nat} {NK : List ByteArray} {w : World} (h : ShAt ea eb X d sy NK w) : X + 1 ≤ w.heap.size := by
  obtain ⟨hv, pv, rv, lv, n, m, mb, P, hS⟩ := h
  exact hS.tb.blk.lt
theorem ShAt.below {ea eb : Addr} {X : Nat} {d : ByteArray} {sy : Nat} {NK : List ByteArray} {w w' : World} (h : ShAt ea eb X d sy NK w) (hb : Below w.heap.size w w') : ShAt ea eb X d sy NK w' := by
  obtain ⟨hv, pv, rv, lv, n, m, mb, P, hS⟩ := h
  exact ⟨hv, pv, rv, lv, n, m, mb, P, hS.tb.far hb, hS.er.below hb, hS.lo, hS.nm.below hb, hS.mx, OwnFl.belowA hS.fl hb, hS.al, hS.fk, orKeep hS.ls fun g cs _ q => q.below hb q.lt, hS.bd⟩
theorem ShAt.data {ea eb : Addr} {X : Nat} {d : ByteArray} {sy : Nat} {NK : List ByteArray} {w : World} (h : ShAt ea eb X d sy NK w) : w.cell? ⟨X, 0, none⟩ = some (.string d) := by
  obtain ⟨hv, pv, rv, lv, n, m, mb, P, hS⟩ := h
  exact RowAt.cell hS.tb.blk 0
theorem ShAt.synced {ea eb : Addr} {X : Nat} {d : ByteArray} {sy : Nat} {NK : List ByteArray} {w : World} (h : ShAt ea eb X d sy NK w) : w.cell? ⟨X, 3, none⟩ = some (.int .i64 (sy : Nat)) ∧ w.frozen? ⟨X, 3, none⟩ = false ∧ w.cell? ⟨X, 7, none⟩ = some (.int .i64 (hldN d : Nat)) := by
  obtain ⟨hv, pv, rv, lv, n, m, mb, P, hS⟩ := h
  exact ⟨RowAt.cell hS.tb.blk 3, RowAt.free hS.tb.blk 3, RowAt.cell hS.tb.blk 7⟩
theorem ShAt.bd {ea eb : Addr} {X : Nat} {d : ByteArray} {sy : Nat} {NK : List ByteArray} {w : World} (h : ShAt ea eb X d sy NK w) : d.size ≤ 300000 := by
  obtain ⟨hv, pv, rv, lv, n, m, mb, P, hS⟩ := h
  exact hS.bd
theorem ShAt.sync {ea eb : Addr} {X : Nat} {d : ByteArray} {sy : Nat} {NK : List ByteArray} {w : World} (h : ShAt ea eb X d sy NK w) (sy' : Nat) : ShAt ea eb X d sy' NK (w.setCell ⟨X, 3, none⟩ (.int .i64 (sy' : Nat))) ∧ TG tgA true X w (w.setCell ⟨X, 3, none⟩ (.int .i64 (sy' : Nat))) := by
  obtain ⟨hv, pv, rv, lv, n, m, mb, P, hS⟩ := h
  have g : w.grownBy (w.setCell ⟨X, 3, none⟩ (.int .i64 (sy' : Nat))) (some X) := grown_set
  have t : TG [72] false X w (w.setCell ⟨X, 3, none⟩ (.int .i64 (sy' : Nat))) := TG.grown false g (Nat.le_of_lt hS.tb.blk.lt) fun k e => by
    obtain rfl := Option.some.inj e
    exact ⟨Nat.le_refl _, _, _, hS.tb.blk, by simp⟩
  have T := hS.tb
  exact ⟨⟨hv, pv, rv, lv, n, m, mb, P, ⟨RowAt.set T.blk 3 _, T.lo, Nat.le_trans T.bs t.size, t.own T.hh (by decide), t.own T.hp (by decide), T.sep, T.hn, T.hm⟩, t.errs hS.er hS.lo (Nat.le_of_lt hS.tb.blk.lt), hS.lo, t.nums hS.nm, hS.mx, t.own hS.fl (by decide), hS.al, hS.fk, t.own hS.ls (by decide), hS.bd⟩, t.weak (by decide) (by simp)⟩
theorem ShQ.id {ea eb : Addr} {X : Nat} {d : ByteArray} {sy : Nat} {NK : List ByteArray} {w w' : World} (h : ShAt ea eb X d sy NK w) (hb : Below w.heap.size w w') : ShQ ea eb X d sy NK w w' := ⟨⟨NK, h.below hb, Ext.refl _, by omega⟩, TG.of_below _ _ hb (by have := h.size; omega)⟩
theorem ShQ.after {ea eb : Addr} {X : Nat} {d' : ByteArray} {sy' : Nat} {NK : List ByteArray} {w w1 w' : World} (h : ShQ ea eb X d' sy' NK w1 w') (hb : Below w.heap.size w w1) (hX : X ≤ w.heap.size) : ShQ ea eb X d' sy' NK w w' := ⟨h.1, (TG.of_below _ _ hb hX).trans h.2⟩
theorem ShQ.then {ea eb : Addr} {X : Nat} {d' : ByteArray} {sy' : Nat} {NK : List ByteArray} {w w1 w' : World} (h : ShQ ea eb X d' sy' NK w w1) (hb : Below w1.heap.size w1 w') (hX : X ≤ w1.heap.size) : ShQ ea eb X d' sy' NK w w' := by
  obtain ⟨⟨NK', h1, h2, h3⟩, t⟩ := h
  exact ⟨⟨NK', h1.below hb, h2, h3⟩, t.trans (TG.of_below _ _ hb hX)⟩
theorem ShQ.sz {ea eb : Addr} {X : Nat} {d' : ByteArray} {sy' : Nat} {NK : List ByteArray} {w w' : World} (h : ShQ ea eb X d' sy' NK w w') : X + 1 ≤ w'.heap.size := by
  obtain ⟨⟨NK', h1, _⟩, _⟩ := h
  exact h1.size
theorem ShQ.at {ea eb : Addr} {X : Nat} {d' : ByteArray} {sy' : Nat} {NK : List ByteArray} {w w' : World} (h : ShQ ea eb X d' sy' NK w w') : ∃ NK', ShAt ea eb X d' sy' NK' w' := by
  obtain ⟨⟨NK', h1, _⟩, _⟩ := h
  exact ⟨NK', h1⟩
/-- .. and then it is synced -/
theorem ShQ.sync {ea eb : Addr} {X : Nat} {d' : ByteArray} {sy : Nat} {NK : List ByteArray} {w w' : World} (h : ShQ ea eb X d' sy NK w w') (sy' : Nat) : ShQ ea eb X d' sy' NK w (w'.setCell ⟨X, 3, none⟩ (.int .i64 (sy' : Nat))) := by
  obtain ⟨⟨NK', h1, h2, h3⟩, t⟩ := h
  exact ⟨⟨NK', (h1.sync sy').1, h2, h3⟩, t.trans (h1.sync sy').2⟩
/-- a key that was never seen has no record -/
theorem lxA_key {d : ByteArray} (hd : d.size ≤ 300000) {NK : List ByteArray} {P : List (Fr × Nat)} (hA : P.map Prod.fst = allR d) (hK : FlK d NK P) {key : ByteArray} (h : lxA d key ≠ -1) : key ∈ NK := by
  obtain ⟨k, i, f, h1, _, _, hi, hs, _⟩ := lxA_yes d key hd h
  have hk : keyAt d (sc d 0) k = key := last_key d (sc d 0) key _ _ h1
  have e : keyAt d (sc d 0) k = rcK d (some f) := by unfold keyAt; rw [hs]
  have hP : ∃ p, P[i]? = some p ∧ p.1 = f := by
    have := congrArg (·[i]?) hA
    simp only [List.getElem?_map] at this
    rw [hi] at this
    cases hp : P[i]? with
    | none => rw [hp] at this; cases this
    | some p => rw [hp] at this; exact ⟨p, rfl, Option.some.inj this⟩
  obtain ⟨p, hp, rfl⟩ := hP
  have := hK p (List.mem_of_getElem? hp)
  rw [← hk, e]
  exact List.mem_of_getElem? this
/-- what lastOf tells -/
def LstQ (d key : ByteArray) (e : Ending) : Prop :=
  (thrB d key = true ∧ ∃ f, (sc d 0)[(lstN d key).toNat]? = some f ∧ e = .returned (.tuple #[frmV f, .bool true])) ∨ (thrB d key = false ∧ ∃ (a b : Int) (c : Bool) (x y z u : Int), e = .returned (.tuple #[.agg #[.int .i64 a, .int .i64 b, .bool c, .int .i64 x, .int .i64 y, .int .i64 z, .int .i64 u], .bool false]))
end Go.Proofs.YtngkiokibldfjaaGreatDoor
namespace Go.Proofs.YtngkiokibldfjaaGreatDoor
open Go.RowKit
set_option linter.unusedVariables false
/-! put, sync, crash, rot of the program's shelf. -/
def rmN (d t : ByteArray) : Int := if t.size = 0 then 1 else if 300000 < d.size + t.size then 7 else 0
theorem chg_app (d t : ByteArray) (h : d.size + t.size ≤ 300000) : Chg d (d ++ t) d.size 300000 := fun k hk => by
  rw [ba_app]
  rcases hk with hk | hk
  · rw [List.getElem?_append_left (by rw [bsz]; exact hk)]
  · rw [List.getElem?_eq_none (by rw [List.length_append, bsz, bsz]; omega), List.getElem?_eq_none (by rw [bsz]; omega)]
theorem chg_cut (d : ByteArray) (e : Nat) (hd : d.size ≤ 300000) : Chg d (d.extract 0 e) e 300000 := fun k hk => by
  rw [ex_data, List.drop_zero]
  rcases hk with hk | hk
  · rw [List.getElem?_take_of_lt (by omega)]
  · rw [List.getElem?_eq_none (by rw [List.length_take, bsz]; omega), List.getElem?_eq_none (by rw [bsz]; omega)]
theorem chg_rot (d : ByteArray) (i : Nat) (t : Int) : Chg d (rotN d i t) i (i + 1) := fun k hk => by
  unfold rotN
  show (d.data.toList.set i _).toArray.toList[k]? = _
  rw [List.toList_toArray, List.getElem?_set_ne (by omega)]
theorem chg_new (d d' : ByteArray) (h : d.size ≤ 300000) (h' : d'.size ≤ 300000) : Chg d d' 0 300000 := fun k hk => by
  rw [List.getElem?_eq_none (by rw [bsz]; omega), List.getElem?_eq_none (by rw [bsz]; omega)]
theorem ChgQ.q {ea eb : Addr} {X : Nat} {d' : ByteArray} {sy : Nat} {NK : List ByteArray} {w w' : World} {e : Ending} (h : ChgQ ea eb X d' sy NK w e w') : ShQ ea eb X d' sy NK w w' := h.2
set_option maxRecDepth 20000 in
set_option maxHeartbeats 2000000 in
theorem iRoom (X : Nat) (d t : ByteArray) (hd : d.size ≤ 300000) (ht : t.size ≤ 1048576) (w : World) (h : w.cell? ⟨X, 0, none⟩ = some (.string d)) :
    Calls Tryz.prog 72 #[.pointer (some ⟨X, 0, none⟩), .string t] w fun e w' => e = .returned (.int .i64 (rmN d t)) ∧ w' = w := by
  have wt : IntKind.i64.wrap ((d.size : Int) + (t.size : Int)) = (d.size : Int) + (t.size : Int) := by rw [IntKind.wrap_i64]; omega
  by_cases t0 : t.size = 0
  · have e0 := ba_empty t t0
    have E : Hid (rmN d t = 1) := if_pos t0
    rw [E.out]
    clear t0
    go_enter Tryz.func72, Tryz.ntmps72
    go_wp2
    go_ret
    exact ⟨rfl, rfl⟩
  · have e0 := ba_some t t0
    by_cases t1 : 300000 < d.size + t.size
    · have e1 : (300000 : Int) < (d.size : Int) + (t.size : Int) := by omega
      have e2 : decide ((300000 : Int) < (d.size : Int) + (t.size : Int)) = true := by simp; omega
      have E : Hid (rmN d t = 7) := by show _ = _; unfold rmN; rw [if_neg t0, if_pos t1]
      rw [E.out]
      clear t0 t1
      go_enter Tryz.func72, Tryz.ntmps72
      go_wp2
      go_ret
      exact ⟨rfl, rfl⟩
    · have e1 : ¬ (300000 : Int) < (d.size : Int) + (t.size : Int) := by omega
      have e2 : decide ((300000 : Int) < (d.size : Int) + (t.size : Int)) = false := by simp; omega
      have E : Hid (rmN d t = 0) := by show _ = _; unfold rmN; rw [if_neg t0, if_neg t1]
      rw [E.out]
      clear t0 t1
      go_enter Tryz.func72, Tryz.ntmps72
      go_wp2
      go_ret
      exact ⟨rfl, rfl⟩
set_option maxRecDepth 20000 in
set_option maxHeartbeats 2000000 in
theorem iPut (ea eb : Addr) (X : Nat) (d : ByteArray) (sy : Nat) (NK : List ByteArray) (hNK : NK.length ≤ 900000000) (ky dt : ByteArray) (hk : ky.size ≤ 1048576) (hdt : dt.size ≤ 1048576) (w : World) (h : ShAt ea eb X d sy NK w) :
    Calls Tryz.prog 47 #[.pointer (some ⟨X, 0, none⟩), .string ky, .string dt] w fun e w' => e = .returned (.int .i64 (putX d sy (recV ky false dt) false).2.2) ∧ ShQ ea eb X (putX d sy (recV ky false dt) false).1 sy NK w w' := by
  have H := hid h
  have XW : Hid (X ≤ w.heap.size) := by have := h.size; show _ ≤ _; omega
  have KP := hid (iPutRec ky false dt hk hdt w)
  have tb := recV_size ky false dt
  obtain ⟨T, hT⟩ : ∃ T, T = recV ky false dt := ⟨_, rfl⟩
  rw [← hT] at KP tb ⊢
  have hd := h.bd
  have KR := fun W h => hid (iRoom X d T hd (by omega) W h)
  have KZ := fun W h => hid (iSize X d W h)
  clear hT h
  by_cases t0 : T.size = 0
  · rw [px1 sy false t0]
    have E : rmN d T = 1 := if_pos t0
    rw [E] at KR
    clear t0 E
    go_enter Tryz.func47, Tryz.ntmps47
    go_wp2_with fail
    refine KP.out.mono ?_
    rintro e w1 ⟨rfl, hb1⟩
    have B1 := hid hb1
    have x0 := (H.out.below hb1).data
    go_wp2_with fail
    refine (KR _ x0).out.mono ?_
    rintro e w2 ⟨rfl, hw⟩
    obtain rfl := hw.symm
    go_wp2
    go_ret
    exact ⟨rfl, ShQ.id H.out B1.out⟩
  · by_cases t1 : 300000 < d.size + T.size
    · rw [px7 sy false t0 t1]
      have E : rmN d T = 7 := by unfold rmN; rw [if_neg t0, if_pos t1]
      rw [E] at KR
      clear t0 t1 E
      go_enter Tryz.func47, Tryz.ntmps47
      go_wp2_with fail
      refine KP.out.mono ?_
      rintro e w1 ⟨rfl, hb1⟩
      have B1 := hid hb1
      have x0 := (H.out.below hb1).data
      go_wp2_with fail
      refine (KR _ x0).out.mono ?_
      rintro e w2 ⟨rfl, hw⟩
      obtain rfl := hw.symm
      go_wp2
      go_ret
      exact ⟨rfl, ShQ.id H.out B1.out⟩
    · rw [px0 sy t0 t1]
      have E : rmN d T = 0 := by unfold rmN; rw [if_neg t0, if_neg t1]
      rw [E] at KR
      have KC := fun W hW => hid (iChange ea eb X d (d ++ T) sy d.size 300000 NK hNK (by rw [ByteArray.size_append]; omega) (chg_app d T (by omega)) hd (Nat.le_refl _) (by rw [ByteArray.size_append]; omega) W hW)
      have zz : ¬ 9223372036854775807 < d.size + T.size := by omega
      clear t0 t1 E
      go_enter Tryz.func47, Tryz.ntmps47
      go_wp2_with fail
      refine KP.out.mono ?_
      rintro e w1 ⟨rfl, hb1⟩
      have B1 := hid hb1
      have H1 := hid (H.out.below hb1)
      have x0 := (H.out.below hb1).data
      go_wp2_with fail
      refine (KR _ x0).out.mono ?_
      rintro e w2 ⟨rfl, hw⟩
      obtain rfl := hw.symm
      have xd : w1.drew.cell? ⟨X, 0, none⟩ = some (.string d) := x0
      have H2 := hid (H1.out.below (Below.refl _ _).drew)
      go_upto_region 4 with fail
      go_region_law (first
        | (go_simp; go_at_call 69; refine (KZ w1.drew xd).out.mono ?_; rintro e5 w5 ⟨rfl, hw⟩; obtain rfl := hw.symm)
        | (go_simp; go_at_call 46; refine (KC w1.drew H2.out).out.mono ?_; rintro e5 w5 hQ5; obtain ⟨v5, rfl⟩ := hQ5.1; have Q5 := hid hQ5.q; clear hQ5))
      all_goals go_wp2
      all_goals go_ret
      all_goals exact ⟨rfl, (Q5.out.after (B1.out.drew) XW.out)⟩
set_option maxRecDepth 20000 in
set_option maxHeartbeats 2000000 in
theorem iSync (ea eb : Addr) (X : Nat) (d : ByteArray) (sy : Nat) (NK : List ByteArray) (w : World) (h : ShAt ea eb X d sy NK w) :
    Calls Tryz.prog 49 #[.pointer (some ⟨X, 0, none⟩)] w fun e w' => Ret e ∧ w' = w.setCell ⟨X, 3, none⟩ (.int .i64 (d.size : Nat)) := by
  have KZ := hid (iSize X d w h.data)
  have x3 := h.synced.1
  have f3 := h.synced.2.1
  clear h
  go_enter Tryz.func49, Tryz.ntmps49
  go_wp2_with fail
  refine KZ.out.mono ?_
  rintro e w2 ⟨rfl, hw⟩
  obtain rfl := hw.symm
  go_wp2
  go_end0
  exact ⟨⟨_, rfl⟩, rfl⟩
set_option maxRecDepth 20000 in
set_option maxHeartbeats 2000000 in
theorem iCrash (ea eb : Addr) (X : Nat) (d : ByteArray) (sy : Nat) (hsy : sy ≤ d.size) (NK : List ByteArray) (hNK : NK.length ≤ 900000000) (kp : Int) (w : World) (h : ShAt ea eb X d sy NK w) :
    Calls Tryz.prog 50 #[.pointer (some ⟨X, 0, none⟩), .int .i64 kp] w fun e w' => Ret e ∧ ShQ ea eb X (d.extract 0 (sy + (crsK d sy kp).toNat)) (sy + (crsK d sy kp).toNat) NK w w' := by
  have H := hid h
  have hd := h.bd
  have XW : Hid (X ≤ w.heap.size) := by have := h.size; show _ ≤ _; omega
  obtain ⟨c, hc⟩ : ∃ c : Nat, c = (crsK d sy kp).toNat := ⟨_, rfl⟩
  have hcc : min (max kp 0) ((d.size : Int) - (sy : Int)) = (c : Int) ∧ c ≤ d.size - sy := by
    rw [hc]
    unfold crsK
    split <;> split <;> omega
  obtain ⟨hcm, hcl⟩ := hcc
  rw [← hc]
  obtain ⟨E, hE⟩ : ∃ E, E = sy + c := ⟨_, rfl⟩
  rw [← hE]
  have KZ := fun W h => hid (iSize X d W h)
  have x0 : w.drew.cell? ⟨X, 0, none⟩ = some (.string d) := h.data
  have x3 : w.drew.cell? ⟨X, 3, none⟩ = some (.int .i64 (sy : Nat)) := h.synced.1
  have w1 : IntKind.i64.wrap ((d.size : Int) - (sy : Int)) = (d.size : Int) - (sy : Int) := by rw [IntKind.wrap_i64]; omega
  have w2 : IntKind.i64.wrap ((sy : Int) + (c : Int)) = (E : Int) := by rw [IntKind.wrap_i64]; omega
  have H1 := hid (h.below (Below.refl _ _).drew)
  have EB : Hid (E ≤ d.size) := by show _ ≤ _; omega
  clear h hc hE hcl
  by_cases he : E < d.size
  · have d1 : (E : Int) < (d.size : Int) := by omega
    have d2 : decide ((E : Int) < (d.size : Int)) = true := by simp; omega
    have e0 : (0 : Int) ≤ (E : Int) := by omega
    have e1 : (E : Int) ≤ (d.size : Int) := by omega
    have sz : (d.extract 0 E).size = E := by rw [ByteArray.size_extract]; omega
    have KC := fun W hW => hid (iChange ea eb X d (d.extract 0 E) sy E 300000 NK hNK (by rw [sz]; omega) (chg_cut d E hd) (by omega) (Nat.le_refl _) (by rw [sz]; exact Nat.le_refl _) W hW)
    have sl : ∀ wx, (Instr.slice 9 (.string d) none (some (.int .i64 (E : Int))) none).run Tryz.prog wx = .ok (.string (d.extract 0 E)) wx := fun wx => by
      rw [run_slice_string_to_if _ _ _ _ _ Tryz.underlying9, if_pos (by omega), Int.toNat_natCast]
    have SZ := hid sz
    clear he sz
    go_enter Tryz.func50, Tryz.ntmps50
    go_wp2_with fail
    go_region_held3 (fun wx => wx.cell? ⟨X, 3, none⟩ = some (.int .i64 (sy : Nat)) ∧ wx.cell? ⟨X, 0, none⟩ = some (.string d)) (first | exact ⟨x3, x0⟩ | (go_keep; done)) (first | (go_at_call 69; refine (KZ w.drew x0).out.mono ?_; rintro e5 w5 ⟨rfl, hw⟩; obtain rfl := hw.symm))
    all_goals go_wp2_with fail
    all_goals
      refine (KZ w.drew x0).out.mono ?_
      rintro e5 w5 ⟨rfl, hw⟩
      obtain rfl := hw.symm
    all_goals go_wp2_with fail
    all_goals
      refine (KC w.drew H1.out).out.mono ?_
      rintro e5 w5 hQ5
      obtain ⟨v5, rfl⟩ := hQ5.1
      have Q5 := hid hQ5.q
      clear hQ5
    all_goals go_wp2_with fail
    all_goals
      obtain ⟨NK5, hA5⟩ := Q5.out.at
      refine (iSync ea eb X (d.extract 0 E) sy NK5 w5 hA5).mono ?_
      rintro e6 w6 ⟨⟨v6, rfl⟩, hw⟩
      rw [SZ.out] at hw
      have Q6 : Hid (ShQ ea eb X (d.extract 0 E) E NK w w6) := by rw [hw]; exact ((Q5.out.sync E).after (Below.refl _ _).drew XW.out)
      clear hA5 hw
    all_goals go_wp2
    all_goals go_end0
    all_goals exact ⟨⟨_, rfl⟩, Q6.out⟩
  · have d1 : ¬ (E : Int) < (d.size : Int) := by omega
    have d2 : decide ((E : Int) < (d.size : Int)) = false := by simp; omega
    obtain rfl : E = d.size := by have := EB.out; omega
    rw [ex_all]
    have KY := hid (iSync ea eb X d sy NK w.drew H1.out)
    clear he
    go_enter Tryz.func50, Tryz.ntmps50
    go_wp2_with fail
    go_region_held3 (fun wx => wx.cell? ⟨X, 3, none⟩ = some (.int .i64 (sy : Nat)) ∧ wx.cell? ⟨X, 0, none⟩ = some (.string d)) (first | exact ⟨x3, x0⟩ | (go_keep; done)) (first | (go_at_call 69; refine (KZ w.drew x0).out.mono ?_; rintro e5 w5 ⟨rfl, hw⟩; obtain rfl := hw.symm))
    all_goals go_wp2_with fail
    all_goals
      refine (KZ w.drew x0).out.mono ?_
      rintro e5 w5 ⟨rfl, hw⟩
      obtain rfl := hw.symm
    all_goals go_wp2_with fail
    all_goals
      refine KY.out.mono ?_
      rintro e6 w6 ⟨⟨v6, rfl⟩, hw⟩
      have Q6 : Hid (ShQ ea eb X d d.size NK w w6) := by rw [hw]; exact (((ShQ.id H.out (Below.refl _ _).drew).sync d.size))
      clear hw
    all_goals go_wp2
    all_goals go_end0
    all_goals exact ⟨⟨_, rfl⟩, Q6.out⟩
end Go.Proofs.YtngkiokibldfjaaGreatDoor
