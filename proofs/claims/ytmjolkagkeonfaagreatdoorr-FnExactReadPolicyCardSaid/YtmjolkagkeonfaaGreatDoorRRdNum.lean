import Derived.Test.YtmjolkagkeonfaaGreatDoorRRdShl
namespace Go.Proofs.YtmjolkagkeonfaaGreatDoorR
open Go.RowKit Go.Shelf
/-! The program's readDecimal. -/
theorem foldl_ge (l : List UInt8) : ∀ acc : Nat, acc ≤ l.foldl (fun n c => n * 10 + (c.toNat - 48)) acc := by
  induction l with
  | nil => intro acc; exact Nat.le_refl _
  | cons c r ih => intro acc; have := ih (acc * 10 + (c.toNat - 48)); simp only [List.foldl_cons]; omega
theorem parseM_dg (M : Nat) (hM : M ≤ 18446744073709551615) : ∀ (l : List UInt8) (acc : Nat), (∀ c ∈ l, dgC c) → l.foldl (fun n c => n * 10 + (c.toNat - 48)) acc ≤ M → Lib.parseUintM M acc l = .ok (l.foldl (fun n c => n * 10 + (c.toNat - 48)) acc)
  | [], acc, _, _ => rfl
  | c :: r, acc, hd, hb => by
    have hc := hd c (by simp)
    unfold dgC at hc
    have hb2 : r.foldl (fun n c => n * 10 + (c.toNat - 48)) (acc * 10 + (c.toNat - 48)) ≤ M := hb
    have ge := foldl_ge r (acc * 10 + (c.toNat - 48))
    unfold Lib.parseUintM
    rw [if_pos hc, if_neg (by omega), if_neg (by omega)]
    exact parseM_dg M hM r _ (fun x hx => hd x (by simp [hx])) hb2
theorem parse_dec (n : Nat) (hn : n ≤ 9223372036854775807) : Lib.parseIntB 64 (Lib.decDigits n) = .ok (n : Int) := by
  have hv : (Lib.decDigits n).foldl (fun n c => n * 10 + (c.toNat - 48)) 0 = n := numL_dec n
  have hu : Lib.parseUintB 64 (Lib.decDigits n) = .ok n := by
    unfold Lib.parseUintB
    rw [if_neg (fun e => by have := decDigits_pos n; rw [e] at this; simp at this)]
    have := parseM_dg (2 ^ 64 - 1) (by decide) (Lib.decDigits n) 0 (decDigits_dg n) (by rw [hv]; omega)
    rw [hv] at this
    exact this
  cases hl : Lib.decDigits n with
  | nil => have := decDigits_pos n; rw [hl] at this; simp at this
  | cons c r =>
    have hc : dgC c := decDigits_dg n c (by rw [hl]; simp)
    unfold dgC at hc
    rw [Lib.parseIntB_plain 64 c r (by omega) (by omega), ← hl, hu]
    unfold Lib.signlessC
    simp only
    rw [if_neg (by omega)]
def decO (s : List UInt8) (z : Int) : Prop := z ≤ 9223372036854775807 ∧ ∀ n : Nat, z = (n : Int) ↔ n ≤ 9223372036854775807 ∧ s = Lib.decDigits n
/-- the same, and within an int64 -/
def decO2 (s : List UInt8) (z : Int) : Prop := -9223372036854775808 ≤ z ∧ decO s z
theorem decO_no {s : List UInt8} (h : ∀ n : Nat, n ≤ 9223372036854775807 → s ≠ Lib.decDigits n) : decO s (-1) :=
  ⟨by decide, fun n => ⟨fun e => by omega, fun ⟨h1, h2⟩ => absurd h2 (h n h1)⟩⟩
theorem decO_ok {s : List UInt8} {v : Int} (h : Lib.parseIntB 64 s = .ok v) (he : Lib.itoa v = s) : decO s v := by
  have hb := Lib.parseIntB_bounds h
  refine ⟨by have := hb.2; simp at this; omega, fun n => ⟨fun e => ?_, fun ⟨h1, h2⟩ => ?_⟩⟩
  · subst e
    have := hb.2
    simp at this
    exact ⟨by omega, by rw [← he, Lib.itoa]; rw [if_neg (by omega)]; simp⟩
  · rw [h2, parse_dec n h1] at h
    cases h
    rfl
theorem decO_not {s : List UInt8} {v : Int} (h : Lib.parseIntB 64 s = .ok v) (he : Lib.itoa v ≠ s) : decO s (-1) := decO_no fun n hn e => by
  rw [e, parse_dec n hn] at h
  cases h
  apply he
  rw [e, Lib.itoa, if_neg (by omega)]
  simp
theorem iPIsyn (s : ByteArray) (hs : s.size ≤ 1048576) (h : Lib.parseIntB 64 s.data.toList = .«syntax») (w : World) (hv : RdV w) :
    Calls Tryz.prog 113 #[.string s, .int .i64 10, .int .i64 64] w fun e w' => (∃ N z, e = .returned (.tuple #[.int .i64 z, .iface 160 (.pointer (some ⟨N, 0, none⟩))])) ∧ Below w.heap.size w w' := by
  obtain ⟨ev, hc, hk⟩ := hv.sx
  refine (Any.strconv_ParseInt_10_at64_syntax rd_LaysC_n174 s (by omega) h ev w hc hk).mono ?_
  rintro e w1 ⟨N, rfl, _, _, hb1⟩
  exact ⟨⟨N, 0, rfl⟩, hb1⟩
theorem iPIrng (s : ByteArray) (hs : s.size ≤ 1048576) (h : Lib.parseIntB 64 s.data.toList = .range) (w : World) (hv : RdV w) :
    Calls Tryz.prog 113 #[.string s, .int .i64 10, .int .i64 64] w fun e w' => (∃ N z, e = .returned (.tuple #[.int .i64 z, .iface 160 (.pointer (some ⟨N, 0, none⟩))])) ∧ Below w.heap.size w w' := by
  obtain ⟨ev, hc, hk⟩ := hv.rg
  refine (Any.strconv_ParseInt_10_at64_range rd_LaysC_n174 s (by omega) h ev w hc hk).mono ?_
  rintro e w1 ⟨N, rfl, _, _, hb1⟩
  exact ⟨⟨N, _, rfl⟩, hb1⟩
theorem iPIok (s : ByteArray) (hs : s.size ≤ 1048576) (v : Int) (h : Lib.parseIntB 64 s.data.toList = .ok v) (w : World) :
    Calls Tryz.prog 113 #[.string s, .int .i64 10, .int .i64 64] w fun e w' => e = .returned (.tuple #[.int .i64 v, .nilIface]) ∧ Below w.heap.size w w' := by
  refine (Any.strconv_ParseInt_10_at64_ok rd_LaysC_n174 s (by omega) v h w).mono ?_
  rintro e w1 ⟨rfl, hw1⟩
  refine ⟨rfl, ?_⟩
  rcases hw1 with rfl | ⟨t, rfl⟩
  · exact Below.refl _ _
  · exact Lib.bytesWorld_below _ _ _
theorem iFmtA (v : Int) (b0 : -9223372036854775808 ≤ v) (b1 : v ≤ 9223372036854775807) (w : World) (hv : RdV w) :
    Calls Tryz.prog 63 #[.int .i64 v, .int .i64 10] w fun e w' => e = .returned (.string (ofL (Lib.itoa v))) ∧ Below w.heap.size w w' := by
  refine (Any.strconv_FormatInt_10 rd_LaysM_n173 v b0 b1 w hv.tb).mono ?_
  rintro e w2 ⟨rfl, k, os, rfl⟩
  refine ⟨rfl, rfl, rfl, rfl, ?_, ?_⟩
  · show w.heap.size ≤ (w.heap ++ os).size
    rw [Array.size_append]; omega
  · intro j hj
    show (w.heap ++ os)[j]? = _
    rw [Array.getElem?_append_left hj]
set_option maxRecDepth 20000 in
set_option maxHeartbeats 1000000 in
theorem iRDec2 (s : ByteArray) (hs : s.size ≤ 1048576) (w : World) (hv : RdV w) :
    Calls Tryz.prog 102 #[.string s] w fun e w' => (∃ z : Int, e = .returned (.int .i64 z) ∧ decO2 s.data.toList z) ∧ Below w.heap.size w w' := by
  have bad : (decO s.data.toList (-1)) → (Calls Tryz.prog 113 #[.string s, .int .i64 10, .int .i64 64] w fun e w' => (∃ N z, e = .returned (.tuple #[.int .i64 z, .iface 160 (.pointer (some ⟨N, 0, none⟩))])) ∧ Below w.heap.size w w') →
      Calls Tryz.prog 102 #[.string s] w fun e w' => (∃ z : Int, e = .returned (.int .i64 z) ∧ decO2 s.data.toList z) ∧ Below w.heap.size w w' := by
    intro d k
    have D := hid d
    have K := hid k
    clear d k hv
    go_enter Tryz.func102, Tryz.ntmps102
    go_wp2_with fail
    refine K.out.mono ?_
    rintro e w1 ⟨⟨N, z, rfl⟩, hb1⟩
    have HB := hid hb1
    clear hb1 K
    go_wp2
    go_ret
    exact ⟨⟨-1, rfl, by decide, D.out⟩, HB.out⟩
  cases hp : Lib.parseIntB 64 s.data.toList with
  | «syntax» => exact bad (decO_no fun n hn e => by rw [e, parse_dec n hn] at hp; cases hp) (iPIsyn s hs hp w hv)
  | range => exact bad (decO_no fun n hn e => by rw [e, parse_dec n hn] at hp; cases hp) (iPIrng s hs hp w hv)
  | ok v =>
    have hb := Lib.parseIntB_bounds hp
    have K := hid (iPIok s hs v hp w)
    have b0 : -9223372036854775808 ≤ v := by have := hb.1; simp at this; omega
    have b1 : v ≤ 9223372036854775807 := by have := hb.2; simp at this; omega
    have KF := fun wx (t : RdV wx) => hid (iFmtA v b0 b1 wx t)
    have HV := hid hv
    clear hb hv bad
    by_cases he : Lib.itoa v = s.data.toList
    · have D : Hid (decO s.data.toList v) := decO_ok hp he
      have bq : ((ofL (Lib.itoa v)).toList == s.toList) = true := (eqL _ _).trans (decide_eq_true (by rw [he]; exact (ofL_of rfl).symm))
      generalize ofL (Lib.itoa v) = V at bq KF
      clear he hp
      go_enter Tryz.func102, Tryz.ntmps102
      go_wp2_with fail
      refine K.out.mono ?_
      rintro e w1 ⟨rfl, hb1⟩
      have B1 := hid hb1
      have T1 := hid (HV.out.below hb1)
      clear hb1 K HV
      go_wp2_with fail
      refine (KF _ T1.out).out.mono ?_
      rintro e w2 ⟨rfl, hb2⟩
      have B2 := hid (B1.out.trans (hb2.mono B1.out.size))
      clear hb2
      go_wp2
      go_ret
      exact ⟨⟨v, rfl, b0, D.out⟩, B2.out⟩
    · have D : Hid (decO s.data.toList (-1)) := decO_not hp he
      have bq : ((ofL (Lib.itoa v)).toList == s.toList) = false := (eqL _ _).trans (decide_eq_false (fun q => he (by rw [← q, ofL_l])))
      generalize ofL (Lib.itoa v) = V at bq KF
      clear he hp
      go_enter Tryz.func102, Tryz.ntmps102
      go_wp2_with fail
      refine K.out.mono ?_
      rintro e w1 ⟨rfl, hb1⟩
      have B1 := hid hb1
      have T1 := hid (HV.out.below hb1)
      clear hb1 K HV
      go_wp2_with fail
      refine (KF _ T1.out).out.mono ?_
      rintro e w2 ⟨rfl, hb2⟩
      have B2 := hid (B1.out.trans (hb2.mono B1.out.size))
      clear hb2
      go_wp2
      go_ret
      exact ⟨⟨-1, rfl, by decide, D.out⟩, B2.out⟩
theorem iRDec (s : ByteArray) (hs : s.size ≤ 1048576) (w : World) (hv : RdV w) :
    Calls Tryz.prog 102 #[.string s] w fun e w' => (∃ z : Int, e = .returned (.int .i64 z) ∧ decO s.data.toList z) ∧ Below w.heap.size w w' := by
  refine (iRDec2 s hs w hv).mono ?_
  rintro e w1 ⟨⟨z, h1, h2⟩, h3⟩
  exact ⟨⟨z, h1, h2.2⟩, h3⟩
end Go.Proofs.YtmjolkagkeonfaaGreatDoorR
