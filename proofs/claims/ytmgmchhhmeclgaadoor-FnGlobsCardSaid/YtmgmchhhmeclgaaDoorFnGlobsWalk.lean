import Derived.Test.YtmgmchhhmeclgaaDoorDrawGlob
import Derived.Test.YtmgmchhhmeclgaaDoorSGlob
namespace Go.Proofs.YtmgmchhhmeclgaaDoor
open Go.RowKit
/-! FnGlobs. -/
theorem fit_more {A B T : List UInt8} (h : Fit (A ++ B) T) : Fit (A ++ [42] ++ B) T := by
  rw [List.append_assoc]
  obtain ⟨k, hk, h1, h2⟩ := fit_append.1 h
  exact fit_append.2 ⟨k, hk, h1, .star0 h2⟩
theorem fit_any (T : List UInt8) : Fit [42] T := fit_star.2 ⟨T.length, Nat.le_refl _, by rw [List.drop_length]; exact .nil⟩
/-- a text with points for some of its bytes, as far as it goes -/
def Pts (os T : List UInt8) (k : Nat) : Prop := os.length = k ∧ ∀ (i : Nat) (o : UInt8), os[i]? = some o → o ≠ 42 ∧ (o = 63 ∨ T[i]? = some o)
theorem pts_fit : ∀ {os T : List UInt8}, Pts os T T.length → Fit os T
  | [], [], _ => .nil
  | [], _ :: _, h => by have := h.1; simp at this
  | _ :: _, [], h => by have := h.1; simp at this
  | o :: os, b :: T, h => by
    obtain ⟨h1, h2⟩ := h.2 0 o rfl
    refine .one h1 (h2.imp id fun e => ?_) (pts_fit ⟨by have := h.1; simpa using this, fun i x hx => by have := h.2 (i + 1) x (by simpa using hx); simpa using this⟩)
    have : some b = some o := e
    exact (Option.some.inj this).symm
theorem pts_no {os T : List UInt8} (h : Pts os T T.length) : ¬ Fit (os ++ [63]) T := fun hf => by
  have h1 : ∀ c ∈ os ++ [63], c ≠ 42 := by
    intro c hc
    rcases List.mem_append.1 hc with hc | hc
    · obtain ⟨i, hi⟩ := List.mem_iff_getElem?.1 hc
      exact (h.2 i c hi).1
    · have : c = 63 := by simpa using hc
      subst this; decide
  have := (fit_seg (q := []) h1 (by simpa using hf)).1
  rw [List.length_append, h.1] at this
  have e : ([63] : List UInt8).length = 1 := rfl
  omega
theorem pts_next {os T : List UInt8} {k : Nat} (h : Pts os T k) {o : UInt8} (ho : o ≠ 42) (hk : o = 63 ∨ T[k]? = some o) : Pts (os ++ [o]) T (k + 1) := by
  refine ⟨by rw [List.length_append, h.1]; rfl, fun i x hx => ?_⟩
  by_cases hi : i < os.length
  · rw [List.getElem?_append_left hi] at hx; exact h.2 i x hx
  · rw [List.getElem?_append_right (by omega)] at hx
    have e : i - os.length = 0 := by
      rcases Nat.eq_zero_or_pos (i - os.length) with e | e
      · exact e
      · rw [List.getElem?_eq_none (by simp; omega)] at hx; cases hx
    rw [e] at hx
    have : o = x := by simpa using hx
    subst this
    have e2 : i = k := by have := h.1; omega
    rw [e2]; exact ⟨ho, hk⟩
def nm (os : List UInt8) : List Int := os.map fun b => (b.toNat : Int)
theorem nm_str (os : List UInt8) : strOfNums (nm os) = ⟨os.toArray⟩ := by
  unfold strOfNums nm
  congr 1
  rw [List.map_map]
  congr 1
  conv => rhs; rw [← List.map_id os]
  refine List.map_congr_left fun b _ => ?_
  simp
theorem nm_len (os : List UInt8) : (nm os).length = os.length := by simp [nm]
theorem nm_app (os : List UInt8) (o : UInt8) : nm os ++ [(o.toNat : Int)] = nm (os ++ [o]) := by simp [nm]
theorem iGlobB (x t : ByteArray) (b : Bool) (hb : Hid (globV x t = b)) (hp : x.size ≤ 1099511627776) (ht : t.size ≤ 1099511627776) (w : World) :
    Calls Tryd.prog 6 #[.string x, .string t] w fun e w' => e = .returned (.bool b) ∧ ∃ n, w' = w.drewN n := by
  rw [← hb.out]; exact iGlob x t hp ht w
theorem ba_app (a b : ByteArray) : (a ++ b).data.toList = a.data.toList ++ b.data.toList := by
  rw [ByteArray.data_append]; simp
theorem more_v {p t : ByteArray} {A : Nat} (hp : p.size ≤ 190) (ht : t.size ≤ 190) (hA : A ≤ p.size) (h : globV p t = true) : globV (p.extract 0 A ++ ⟨#[42]⟩ ++ p.extract A p.size) t = true := by
  have hs : (p.extract 0 A ++ ⟨#[42]⟩ ++ p.extract A p.size).size ≤ 200 := by
    rw [sizeApp, sizeApp, ByteArray.size_extract, ByteArray.size_extract]
    show _ + 1 + _ ≤ 200
    omega
  rw [glob_in (by omega) (by omega)] at h
  rw [glob_in hs (by omega)]
  have h1 := glB_iff.1 h
  apply glB_t
  rw [ba_app, ba_app, ext_take, ext_drop]
  refine fit_more ?_
  rw [List.take_append_drop]; exact h1
theorem star_v {t : ByteArray} (ht : t.size ≤ 190) : globV ⟨#[42]⟩ t = true := by
  rw [glob_in (by show 1 ≤ 200; omega) (by omega)]
  exact glB_t (fit_any _)
theorem own_v {os : List UInt8} {t : ByteArray} (ht : t.size ≤ 190) (h : Pts os t.data.toList t.size) : globV ⟨os.toArray⟩ t = true := by
  have h1 : (⟨os.toArray⟩ : ByteArray).size = t.size := by show os.toArray.size = _; simp [h.1]
  rw [glob_in (by omega) (by omega)]
  exact glB_t (pts_fit (by rw [baLen]; exact h))
theorem own_no {os : List UInt8} {t : ByteArray} (ht : t.size ≤ 190) (h : Pts os t.data.toList t.size) : globV ((⟨os.toArray⟩ : ByteArray) ++ ⟨#[63]⟩) t = false := by
  have h1 : (⟨os.toArray⟩ : ByteArray).size = t.size := by show os.toArray.size = _; simp [h.1]
  rw [glob_in (by rw [sizeApp, h1]; show _ + 1 ≤ 200; omega) (by omega)]
  apply glB_f
  rw [ba_app]
  exact pts_no (by rw [baLen]; exact h)
theorem lwAtZ (w : World) (a : Option Addr) (len cap i : Nat) (z : Int) (hz : z = (i : Int)) (hc : CodeOk w a len) (hi : i ≤ 1000) :
    Calls Tryd.prog 8 #[.slice a len cap, .int .i64 z] w fun e w' => (∃ r : Nat, e = .returned (.int .i64 r) ∧ r < 256) ∧ w' = w := by subst hz; exact lwAt_all w a len cap i hc hi
set_option maxRecDepth 20000 in
set_option maxHeartbeats 4000000 in
theorem fnGlobs_small (a : Option Addr) (len cap : Nat) (a' : Option Addr) (len' cap' : Nat) (w : World) (hc : CodeOk w a len) (hlc : len ≤ cap) (hc' : CodeOk w a' len') :
    Calls Tryd.prog 3 #[.slice a len cap, .slice a' len' cap'] w fun e w' => e = .returned (.bool true) ∧ Below w.heap.size w w' := by
  have hl := hc.1
  have hl' := hc'.1
  have d0 : decide ((1048576 : Int) < (len : Int)) = false := by simp; omega
  have d1 : decide ((1048576 : Int) < (len' : Int)) = false := by simp; omega
  have HC' := hid hc'
  go_enter Tryd.func3, Tryd.ntmps3
  go_wp2_with fail
  refine (drawGlob_all w a len cap hc hlc).mono ?_
  rintro e w1 ⟨⟨p, t, rfl, hps, hts⟩, hb1⟩
  have HB1 := hid hb1
  clear hb1 hc' hc
  go_wp2_with fail
  refine (iGlob p t (by omega) (by omega) _).mono ?_
  rintro e w2 ⟨rfl, n1, rfl⟩
  have HB2 := hid (bdrewN HB1.out n1)
  clear HB1
  go_wp2_with fail
  refine (sGlob p t (by omega) (by omega) _).mono ?_
  rintro e w2 ⟨rfl, hb3⟩
  have HB3 := hid (HB2.out.trans (hb3.mono HB2.out.size))
  clear HB2 hb3
  generalize hf : globV p t = f
  have HF := hid hf
  clear hf
  have n0 : (f != f) = false := by simp
  by_cases hp : p.size ≤ 190
  · by_cases ht : t.size ≤ 190
    · have d2 : ¬ (190 : Int) < (p.size : Int) := by omega
      have d3 : ¬ (190 : Int) < (t.size : Int) := by omega
      go_wp2_with fail
      refine (lwAt_all w2 a' len' cap' 0 (HC'.out.below HB3.out) (by omega)).mono ?_
      rintro e w3 ⟨⟨r, rfl, hr⟩, rfl⟩
      obtain ⟨A, hA⟩ : ∃ A : Nat, A = r % (p.size + 1) := ⟨_, rfl⟩
      have hA1 : A ≤ p.size := by have := Nat.mod_lt r (show 0 < p.size + 1 by omega); omega
      have e1 : (r : Int) % ((p.size : Int) + 1) = (A : Int) := by rw [hA]; simp
      have e2 : (r : Int).tmod ((p.size : Int) + 1) = (A : Int) := by rw [Int.tmod_eq_emod_of_nonneg (by omega)]; exact e1
      have z1 : ¬ ((p.size : Int) + 1) = 0 := by omega
      clear hA
      cases f with
      | false =>
        go_wp2
        go_quiet (fail)
        generalize hWW : w3.drewN nq = WW
        have HBW : Hid (Below w.heap.size w WW) := by show Below _ _ _; rw [← hWW]; exact bdrewN HB3.out nq
        have HBA : Hid (Below w.heap.size w (WW.alloc (.cells #[] 5))) := HBW.out.alloc HBW.out.size _
        have own0 := hid (OwnNums.empty WW 5 .u8)
        have HZ0 : Hid (w.heap.size ≤ WW.heap.size) := HBW.out.size
        clear hWW
        obtain ⟨B, hB⟩ : ∃ B, WW.heap.size = B := ⟨_, rfl⟩
        rw [hB] at own0 HZ0
        have HB := hid hB
        go_wp2
        go_loopw [9, 10] (fun v i wr => ∃ (k : Nat) (os : List UInt8), k ≤ t.size ∧ i = .int .i64 (k : Int) ∧ Pts os t.data.toList k ∧ OwnNums wr B 5 .u8 v (nm os) ∧ Below w.heap.size w wr ∧ B ≤ wr.heap.size) (fun _ i _ => t.size - (intOf i).toNat)
        case atStart => exact ⟨0, [], Nat.zero_le _, rfl, ⟨rfl, fun i o h => by cases h⟩, own0.out, HBA.out, by rw [World.size_alloc]; omega⟩
        case round =>
          obtain ⟨k, os, hk, rfl, hpt, how, hbk, hzb⟩ := hrel
          have HP := hid hpt
          have OW := hid how
          have HBk := hid hbk
          have HZ := hid hzb
          clear hpt how hbk hzb own0 HBA
          by_cases hlt : k < t.size
          · have dk : (k : Int) < (t.size : Int) := by omega
            have at1 := hid (ba_at t k hlt)
            go_wp2_with fail
            refine (lwAtZ wr a' len' cap' (k + 1) _ (by omega) (HC'.out.below HBk.out) (by omega)).mono ?_
            rintro e w4 ⟨⟨r, rfl, hr⟩, rfl⟩
            by_cases r3 : r % 3 = 0
            · have e3 : (r : Int) % 3 = 0 := by omega
              have e4 : (r : Int).tmod 3 = 0 := by rw [Int.tmod_eq_emod_of_nonneg (by omega)]; exact e3
              go_wp2_with (first | (at_builtin; refine append_num2 B _ rfl (.tmp 85) (.tmp 87) 22 rfl 5 .u8 1 Tryd.underlying22 Tryd.info5 (by decide) _ (nm os) _ rfl OW.out HZ.out rfl ?_ ?_; (rw [nm_len, HP.out.1]; omega)))
              intro v' w5 hown4 hg4
              have HN := hid (pts_next HP.out (o := 63) (by decide) (Or.inl rfl))
              have HO4 : Hid (OwnNums w5 B 5 .u8 v' (nm (os ++ [63]))) := by rw [← nm_app]; exact hown4
              have HBN : Hid (Below w.heap.size w w5) := HBk.out.grown hg4 HBk.out.size (fun g hv => Nat.le_trans HZ0.out (World.ownsRow.lt OW.out g hv).1)
              have HZN : Hid (B ≤ w5.heap.size) := Nat.le_trans HZ.out hg4.size
              clear hown4 hg4
              go_wp2
              go_roundw
              case rel => exact ⟨k + 1, _, by omega, by go_num, HN.out, HO4.out, HBN.out, HZN.out⟩
              case measure => simp [intOf]; omega
            · have e3 : ¬ (r : Int) % 3 = 0 := by omega
              have b3 : ((r : Int) % 3 == 0) = false := beq_eq_false_iff_ne.2 e3
              have e4 : ¬ (r : Int).tmod 3 = 0 := by rw [Int.tmod_eq_emod_of_nonneg (by omega)]; exact e3
              by_cases c42 : t[k]'hlt = 42
              · have q1 : ((t[k]'hlt).toNat : Int) = 42 := (u8_eq (c := 42) rfl).2 c42
                clear c42
                go_wp2_with (first | (at_builtin; refine append_num2 B _ rfl (.tmp 85) (.tmp 87) 22 rfl 5 .u8 1 Tryd.underlying22 Tryd.info5 (by decide) _ (nm os) _ rfl OW.out HZ.out rfl ?_ ?_; (rw [nm_len, HP.out.1]; omega)))
                intro v' w5 hown4 hg4
                have HN := hid (pts_next HP.out (o := 63) (by decide) (Or.inl rfl))
                have HO4 : Hid (OwnNums w5 B 5 .u8 v' (nm (os ++ [63]))) := by rw [← nm_app]; exact hown4
                have HBN : Hid (Below w.heap.size w w5) := HBk.out.grown hg4 HBk.out.size (fun g hv => Nat.le_trans HZ0.out (World.ownsRow.lt OW.out g hv).1)
                have HZN : Hid (B ≤ w5.heap.size) := Nat.le_trans HZ.out hg4.size
                clear hown4 hg4
                go_wp2
                go_roundw
                case rel => exact ⟨k + 1, _, by omega, by go_num, HN.out, HO4.out, HBN.out, HZN.out⟩
                case measure => simp [intOf]; omega
              · have q1 : ¬ ((t[k]'hlt).toNat : Int) = 42 := fun h => c42 ((u8_eq (c := 42) rfl).1 h)
                have b4 : (((t[k]'hlt).toNat : Int) == 42) = false := beq_eq_false_iff_ne.2 q1
                by_cases c63 : t[k]'hlt = 63
                · have q2 : ((t[k]'hlt).toNat : Int) = 63 := (u8_eq (c := 63) rfl).2 c63
                  clear c42 c63
                  go_wp2_with (first | (at_builtin; refine append_num2 B _ rfl (.tmp 85) (.tmp 87) 22 rfl 5 .u8 1 Tryd.underlying22 Tryd.info5 (by decide) _ (nm os) _ rfl OW.out HZ.out rfl ?_ ?_; (rw [nm_len, HP.out.1]; omega)))
                  intro v' w5 hown4 hg4
                  have HN := hid (pts_next HP.out (o := 63) (by decide) (Or.inl rfl))
                  have HO4 : Hid (OwnNums w5 B 5 .u8 v' (nm (os ++ [63]))) := by rw [← nm_app]; exact hown4
                  have HBN : Hid (Below w.heap.size w w5) := HBk.out.grown hg4 HBk.out.size (fun g hv => Nat.le_trans HZ0.out (World.ownsRow.lt OW.out g hv).1)
                  have HZN : Hid (B ≤ w5.heap.size) := Nat.le_trans HZ.out hg4.size
                  clear hown4 hg4
                  go_wp2
                  go_roundw
                  case rel => exact ⟨k + 1, _, by omega, by go_num, HN.out, HO4.out, HBN.out, HZN.out⟩
                  case measure => simp [intOf]; omega
                · have q2 : ¬ ((t[k]'hlt).toNat : Int) = 63 := fun h => c63 ((u8_eq (c := 63) rfl).1 h)
                  have b5 : (((t[k]'hlt).toNat : Int) == 63) = false := beq_eq_false_iff_ne.2 q2
                  have HN0 := hid (pts_next HP.out (o := t[k]'hlt) c42 (Or.inr at1.out))
                  clear c42 c63
                  go_wp2_with (first | (at_builtin; refine append_num2 B _ rfl (.tmp 85) (.tmp 87) 22 rfl 5 .u8 1 Tryd.underlying22 Tryd.info5 (by decide) _ (nm os) _ rfl OW.out HZ.out rfl ?_ ?_; (rw [nm_len, HP.out.1]; omega)))
                  intro v' w5 hown4 hg4
                  have HN := hid (HN0.out)
                  have HO4 : Hid (OwnNums w5 B 5 .u8 v' (nm (os ++ [t[k]'hlt]))) := by rw [← nm_app]; exact hown4
                  have HBN : Hid (Below w.heap.size w w5) := HBk.out.grown hg4 HBk.out.size (fun g hv => Nat.le_trans HZ0.out (World.ownsRow.lt OW.out g hv).1)
                  have HZN : Hid (B ≤ w5.heap.size) := Nat.le_trans HZ.out hg4.size
                  clear hown4 hg4
                  go_wp2
                  go_roundw
                  case rel => exact ⟨k + 1, _, by omega, by go_num, HN.out, HO4.out, HBN.out, HZN.out⟩
                  case measure => simp [intOf]; omega
          · have dk : ¬ (k : Int) < (t.size : Int) := by omega
            have ek : k = t.size := by omega
            have HPk : Hid (Pts os t.data.toList t.size) := by have := HP.out; rw [ek] at this; exact this
            have V1 := hid (own_v ht HPk.out)
            have V2 := hid (star_v ht)
            have V3 := hid (own_no ht HPk.out)
            have hcv := conv_owned wr 22 5 9 Tryd.underlying22 Tryd.underlying5 Tryd.underlying9 OW.out
            rw [nm_str] at hcv
            have hcv2 := fun n => conv_owned (wr.drewN n) 22 5 9 Tryd.underlying22 Tryd.underlying5 Tryd.underlying9 (show OwnNums (wr.drewN n) B 5 .u8 u9 (nm os) from OW.out)
            rw [nm_str] at hcv2
            have so : os.length = t.size := HPk.out.1
            have so2 : (⟨os.toArray⟩ : ByteArray).size = t.size := by show os.toArray.size = _; simp [so]
            have SO := hid so2
            clear so so2
            go_wp2_with fail
            refine (iGlobB _ t true V1 (by rw [SO.out]; omega) (by omega) _).mono ?_
            rintro e w6 ⟨rfl, n6, rfl⟩
            go_wp2_with fail
            refine (iGlobB _ t true V2 (by show 1 ≤ _; omega) (by omega) _).mono ?_
            rintro e w6 ⟨rfl, n7, rfl⟩
            have hcv3 := conv_owned ((wr.drewN n6).drewN n7) 22 5 9 Tryd.underlying22 Tryd.underlying5 Tryd.underlying9 (show OwnNums ((wr.drewN n6).drewN n7) B 5 .u8 u9 (nm os) from OW.out)
            rw [nm_str] at hcv3
            have so3 : ¬ 9223372036854775807 < os.length + 1 := by rw [HPk.out.1]; omega
            have so4 : os.length + 1 ≤ 9223372036854775807 := by omega
            go_wp2_with fail
            refine (iGlobB _ t false V3 (by rw [sizeApp, SO.out]; show _ + 1 ≤ _; omega) (by omega) _).mono ?_
            rintro e w6 ⟨rfl, n8, rfl⟩
            go_wp2
            go_ret
            exact ⟨rfl, bdrewN HBk.out _⟩
      | true =>
        have MV := hid (more_v hp ht hA1 HF.out)
        have KG := fun n => iGlobB (p.extract 0 A ++ ⟨#[42]⟩ ++ p.extract A p.size) t true MV (by rw [sizeApp, sizeApp, ByteArray.size_extract, ByteArray.size_extract]; show _ + 1 + _ ≤ _; omega) (by omega) (w3.drewN n)
        have s1 : A + 1 ≤ 9223372036854775807 := by omega
        have s2 : A + 1 + (p.size - A) ≤ 9223372036854775807 := by omega
        have s3 : ¬ 9223372036854775807 < A + 1 := by omega
        have s4 : ¬ 9223372036854775807 < A + 1 + (p.size - A) := by omega
        go_wp2
        go_quiet ((go_at_call 6; exact Calls.quiet_of (KG _)))
        generalize hWW : w3.drewN nq = WW
        have HBW : Hid (Below w.heap.size w WW) := by show Below _ _ _; rw [← hWW]; exact bdrewN HB3.out nq
        have HBA : Hid (Below w.heap.size w (WW.alloc (.cells #[] 5))) := HBW.out.alloc HBW.out.size _
        have own0 := hid (OwnNums.empty WW 5 .u8)
        have HZ0 : Hid (w.heap.size ≤ WW.heap.size) := HBW.out.size
        clear hWW
        obtain ⟨B, hB⟩ : ∃ B, WW.heap.size = B := ⟨_, rfl⟩
        rw [hB] at own0 HZ0
        have HB := hid hB
        go_wp2
        go_loopw [9, 10] (fun v i wr => ∃ (k : Nat) (os : List UInt8), k ≤ t.size ∧ i = .int .i64 (k : Int) ∧ Pts os t.data.toList k ∧ OwnNums wr B 5 .u8 v (nm os) ∧ Below w.heap.size w wr ∧ B ≤ wr.heap.size) (fun _ i _ => t.size - (intOf i).toNat)
        case atStart => exact ⟨0, [], Nat.zero_le _, rfl, ⟨rfl, fun i o h => by cases h⟩, own0.out, HBA.out, by rw [World.size_alloc]; omega⟩
        case round =>
          obtain ⟨k, os, hk, rfl, hpt, how, hbk, hzb⟩ := hrel
          have HP := hid hpt
          have OW := hid how
          have HBk := hid hbk
          have HZ := hid hzb
          clear hpt how hbk hzb own0 HBA
          by_cases hlt : k < t.size
          · have dk : (k : Int) < (t.size : Int) := by omega
            have at1 := hid (ba_at t k hlt)
            go_wp2_with fail
            refine (lwAtZ wr a' len' cap' (k + 1) _ (by omega) (HC'.out.below HBk.out) (by omega)).mono ?_
            rintro e w4 ⟨⟨r, rfl, hr⟩, rfl⟩
            by_cases r3 : r % 3 = 0
            · have e3 : (r : Int) % 3 = 0 := by omega
              have e4 : (r : Int).tmod 3 = 0 := by rw [Int.tmod_eq_emod_of_nonneg (by omega)]; exact e3
              go_wp2_with (first | (at_builtin; refine append_num2 B _ rfl (.tmp 85) (.tmp 87) 22 rfl 5 .u8 1 Tryd.underlying22 Tryd.info5 (by decide) _ (nm os) _ rfl OW.out HZ.out rfl ?_ ?_; (rw [nm_len, HP.out.1]; omega)))
              intro v' w5 hown4 hg4
              have HN := hid (pts_next HP.out (o := 63) (by decide) (Or.inl rfl))
              have HO4 : Hid (OwnNums w5 B 5 .u8 v' (nm (os ++ [63]))) := by rw [← nm_app]; exact hown4
              have HBN : Hid (Below w.heap.size w w5) := HBk.out.grown hg4 HBk.out.size (fun g hv => Nat.le_trans HZ0.out (World.ownsRow.lt OW.out g hv).1)
              have HZN : Hid (B ≤ w5.heap.size) := Nat.le_trans HZ.out hg4.size
              clear hown4 hg4
              go_wp2
              go_roundw
              case rel => exact ⟨k + 1, _, by omega, by go_num, HN.out, HO4.out, HBN.out, HZN.out⟩
              case measure => simp [intOf]; omega
            · have e3 : ¬ (r : Int) % 3 = 0 := by omega
              have b3 : ((r : Int) % 3 == 0) = false := beq_eq_false_iff_ne.2 e3
              have e4 : ¬ (r : Int).tmod 3 = 0 := by rw [Int.tmod_eq_emod_of_nonneg (by omega)]; exact e3
              by_cases c42 : t[k]'hlt = 42
              · have q1 : ((t[k]'hlt).toNat : Int) = 42 := (u8_eq (c := 42) rfl).2 c42
                clear c42
                go_wp2_with (first | (at_builtin; refine append_num2 B _ rfl (.tmp 85) (.tmp 87) 22 rfl 5 .u8 1 Tryd.underlying22 Tryd.info5 (by decide) _ (nm os) _ rfl OW.out HZ.out rfl ?_ ?_; (rw [nm_len, HP.out.1]; omega)))
                intro v' w5 hown4 hg4
                have HN := hid (pts_next HP.out (o := 63) (by decide) (Or.inl rfl))
                have HO4 : Hid (OwnNums w5 B 5 .u8 v' (nm (os ++ [63]))) := by rw [← nm_app]; exact hown4
                have HBN : Hid (Below w.heap.size w w5) := HBk.out.grown hg4 HBk.out.size (fun g hv => Nat.le_trans HZ0.out (World.ownsRow.lt OW.out g hv).1)
                have HZN : Hid (B ≤ w5.heap.size) := Nat.le_trans HZ.out hg4.size
                clear hown4 hg4
                go_wp2
                go_roundw
                case rel => exact ⟨k + 1, _, by omega, by go_num, HN.out, HO4.out, HBN.out, HZN.out⟩
                case measure => simp [intOf]; omega
              · have q1 : ¬ ((t[k]'hlt).toNat : Int) = 42 := fun h => c42 ((u8_eq (c := 42) rfl).1 h)
                have b4 : (((t[k]'hlt).toNat : Int) == 42) = false := beq_eq_false_iff_ne.2 q1
                by_cases c63 : t[k]'hlt = 63
                · have q2 : ((t[k]'hlt).toNat : Int) = 63 := (u8_eq (c := 63) rfl).2 c63
                  clear c42 c63
                  go_wp2_with (first | (at_builtin; refine append_num2 B _ rfl (.tmp 85) (.tmp 87) 22 rfl 5 .u8 1 Tryd.underlying22 Tryd.info5 (by decide) _ (nm os) _ rfl OW.out HZ.out rfl ?_ ?_; (rw [nm_len, HP.out.1]; omega)))
                  intro v' w5 hown4 hg4
                  have HN := hid (pts_next HP.out (o := 63) (by decide) (Or.inl rfl))
                  have HO4 : Hid (OwnNums w5 B 5 .u8 v' (nm (os ++ [63]))) := by rw [← nm_app]; exact hown4
                  have HBN : Hid (Below w.heap.size w w5) := HBk.out.grown hg4 HBk.out.size (fun g hv => Nat.le_trans HZ0.out (World.ownsRow.lt OW.out g hv).1)
                  have HZN : Hid (B ≤ w5.heap.size) := Nat.le_trans HZ.out hg4.size
                  clear hown4 hg4
                  go_wp2
                  go_roundw
                  case rel => exact ⟨k + 1, _, by omega, by go_num, HN.out, HO4.out, HBN.out, HZN.out⟩
                  case measure => simp [intOf]; omega
                · have q2 : ¬ ((t[k]'hlt).toNat : Int) = 63 := fun h => c63 ((u8_eq (c := 63) rfl).1 h)
                  have b5 : (((t[k]'hlt).toNat : Int) == 63) = false := beq_eq_false_iff_ne.2 q2
                  have HN0 := hid (pts_next HP.out (o := t[k]'hlt) c42 (Or.inr at1.out))
                  clear c42 c63
                  go_wp2_with (first | (at_builtin; refine append_num2 B _ rfl (.tmp 85) (.tmp 87) 22 rfl 5 .u8 1 Tryd.underlying22 Tryd.info5 (by decide) _ (nm os) _ rfl OW.out HZ.out rfl ?_ ?_; (rw [nm_len, HP.out.1]; omega)))
                  intro v' w5 hown4 hg4
                  have HN := hid (HN0.out)
                  have HO4 : Hid (OwnNums w5 B 5 .u8 v' (nm (os ++ [t[k]'hlt]))) := by rw [← nm_app]; exact hown4
                  have HBN : Hid (Below w.heap.size w w5) := HBk.out.grown hg4 HBk.out.size (fun g hv => Nat.le_trans HZ0.out (World.ownsRow.lt OW.out g hv).1)
                  have HZN : Hid (B ≤ w5.heap.size) := Nat.le_trans HZ.out hg4.size
                  clear hown4 hg4
                  go_wp2
                  go_roundw
                  case rel => exact ⟨k + 1, _, by omega, by go_num, HN.out, HO4.out, HBN.out, HZN.out⟩
                  case measure => simp [intOf]; omega
          · have dk : ¬ (k : Int) < (t.size : Int) := by omega
            have ek : k = t.size := by omega
            have HPk : Hid (Pts os t.data.toList t.size) := by have := HP.out; rw [ek] at this; exact this
            have V1 := hid (own_v ht HPk.out)
            have V2 := hid (star_v ht)
            have V3 := hid (own_no ht HPk.out)
            have hcv := conv_owned wr 22 5 9 Tryd.underlying22 Tryd.underlying5 Tryd.underlying9 OW.out
            rw [nm_str] at hcv
            have hcv2 := fun n => conv_owned (wr.drewN n) 22 5 9 Tryd.underlying22 Tryd.underlying5 Tryd.underlying9 (show OwnNums (wr.drewN n) B 5 .u8 u9 (nm os) from OW.out)
            rw [nm_str] at hcv2
            have so : os.length = t.size := HPk.out.1
            have so2 : (⟨os.toArray⟩ : ByteArray).size = t.size := by show os.toArray.size = _; simp [so]
            have SO := hid so2
            clear so so2
            go_wp2_with fail
            refine (iGlobB _ t true V1 (by rw [SO.out]; omega) (by omega) _).mono ?_
            rintro e w6 ⟨rfl, n6, rfl⟩
            go_wp2_with fail
            refine (iGlobB _ t true V2 (by show 1 ≤ _; omega) (by omega) _).mono ?_
            rintro e w6 ⟨rfl, n7, rfl⟩
            have hcv3 := conv_owned ((wr.drewN n6).drewN n7) 22 5 9 Tryd.underlying22 Tryd.underlying5 Tryd.underlying9 (show OwnNums ((wr.drewN n6).drewN n7) B 5 .u8 u9 (nm os) from OW.out)
            rw [nm_str] at hcv3
            have so3 : ¬ 9223372036854775807 < os.length + 1 := by rw [HPk.out.1]; omega
            have so4 : os.length + 1 ≤ 9223372036854775807 := by omega
            go_wp2_with fail
            refine (iGlobB _ t false V3 (by rw [sizeApp, SO.out]; show _ + 1 ≤ _; omega) (by omega) _).mono ?_
            rintro e w6 ⟨rfl, n8, rfl⟩
            go_wp2
            go_ret
            exact ⟨rfl, bdrewN HBk.out _⟩
    · have d2 : ¬ (190 : Int) < (p.size : Int) := by omega
      have d3 : (190 : Int) < (t.size : Int) := by omega
      go_wp2
      go_ret
      exact ⟨rfl, HB3.out⟩
  · have d2 : (190 : Int) < (p.size : Int) := by omega
    go_wp2
    go_ret
    exact ⟨rfl, HB3.out⟩
theorem fnGlobs_walk {w : World} (a0 : Option Addr) (len0 cap0 : Nat) (z0 : List Int) (h0 : IsRow .u8 w a0 len0 cap0 z0) (a1 : Option Addr) (len1 cap1 : Nat) (z1 : List Int) (h1 : IsRow .u8 w a1 len1 cap1 z1) :
    Calls Tryd.prog 3 #[.slice a0 len0 cap0, .slice a1 len1 cap1] w fun e w' => e = .returned (.bool true) ∧ Below w.heap.size w w' := by
  have m0 := h0.le
  have m1 := h1.le
  unfold maxLen at m0 m1
  by_cases hl0 : len0 ≤ 1048576
  · by_cases hl1 : len1 ≤ 1048576
    · exact fnGlobs_small a0 len0 cap0 a1 len1 cap1 w (codeOk_of w a0 len0 cap0 z0 h0 hl0) m0.1 (codeOk_of w a1 len1 cap1 z1 h1 hl1)
    · have d0 : decide ((1048576 : Int) < (len0 : Int)) = false := by simp; omega
      have d1 : decide ((1048576 : Int) < (len1 : Int)) = true := by simp; omega
      go_enter Tryd.func3, Tryd.ntmps3
      go_wp2
      go_ret
      exact ⟨rfl, Below.refl _ _⟩
  · have d0 : decide ((1048576 : Int) < (len0 : Int)) = true := by simp; omega
    go_enter Tryd.func3, Tryd.ntmps3
    go_wp2
    go_ret
    exact ⟨rfl, Below.refl _ _⟩
end Go.Proofs.YtmgmchhhmeclgaaDoor
