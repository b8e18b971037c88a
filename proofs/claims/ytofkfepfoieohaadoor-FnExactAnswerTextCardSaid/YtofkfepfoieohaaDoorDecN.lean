import Derived.Test.YtofkfepfoieohaaDoorRows1
import Derived.Test.YtofkfepfoieohaaDoorProg
import Derived.Lib.ItoaNum
import Derived.Lib.ConvBytes
import Derived.Deep.RegionWith
namespace Go.Proofs.YtofkfepfoieohaaDoor
open Go.RowKit
/-! Numbers as texts: the specification's, all of 64 bits. -/
theorem ba_app (a b : ByteArray) : (a ++ b).data.toList = a.data.toList ++ b.data.toList := by
  rw [ByteArray.data_append]; simp
theorem baLen (b : ByteArray) : b.data.toList.length = b.size := by simp
theorem sizeApp (a b : ByteArray) : (a ++ b).size = a.size + b.size := ByteArray.size_append ..
theorem convGw (w : World) (b : Nat) (d : Int) (h : w.cell? ⟨b, 0, none⟩ = some (.int .u8 d)) : (convert 25 9 (.slice (some ⟨b, 0, none⟩) 1 1)).run Tryd.prog w = .ok (.string (strOfNums [d])) w :=
  run_convert_bytes_arg (P := Tryd.prog) _ 25 5 Tryd.underlying25 Tryd.underlying5 b 0 1 1 [d] rfl (fun i hi => by
    have e : i = 0 := by omega
    subst e
    exact h) 9 Tryd.underlying9
theorem str1w (d : Int) : (strOfNums [d]).size = 1 := by rw [strOfNums_size]; rfl
theorem wrp (r : Nat) (h : r < 10) : IntKind.u8.wrap (IntKind.i64.wrap (48 + (r : Int))) = 48 + (r : Int) := by
  rw [IntKind.wrap_i64]
  simp [IntKind.wrap, IntKind.bits, IntKind.signed]
  omega
theorem str1d (r : Nat) : (strOfNums [48 + (r : Int)]).data.toList = [UInt8.ofNat (48 + r)] := by
  rw [strOfNums_data, List.map_cons, List.map_nil, show (48 + (r : Int)).toNat = 48 + r by omega]
set_option maxRecDepth 20000 in
set_option maxHeartbeats 1000000 in
theorem sDec1 (n : Nat) (hn : n < 10) (w : World) :
    Calls Tryd.prog 6 #[.int .i64 (n : Int)] w fun e w' => (∃ t : ByteArray, e = .returned (.string t) ∧ t.data.toList = Lib.decDigits n ∧ t.size ≤ 19) ∧ Below w.heap.size w w' := by
  have d0 : ¬ (n : Int) < 0 := by omega
  have d1 : (n : Int) < 10 := by omega
  have B1 : Hid (∀ o, Below w.heap.size w (w.alloc o)) := fun o => (Below.refl _ w).alloc (Nat.le_refl _) _
  have cv := fun d => convGw (w.alloc (.cells #[.int .u8 d] 5)) w.heap.size d ((RowAt.new w _ _).cell 0)
  go_enter Tryd.func6, Tryd.ntmps6
  go_wp2
  go_ret
  exact ⟨⟨_, rfl, by rw [str1d, Lib.decDigits_one hn], by rw [str1w]; omega⟩, B1.out _⟩
theorem sDecz (z : Int) (n : Nat) (hz : z = (n : Int)) {w : World} {R : Ending → World → Prop} (h : Calls Tryd.prog 6 #[.int .i64 (n : Int)] w R) : Calls Tryd.prog 6 #[.int .i64 z] w R := by subst hz; exact h
set_option maxRecDepth 20000 in
set_option maxHeartbeats 1000000 in
theorem sDecS (d : Nat) : ∀ (n : Nat), n < 10 ^ (d + 1) → d ≤ 18 → ∀ w : World,
    Calls Tryd.prog 6 #[.int .i64 (n : Int)] w fun e w' => (∃ t : ByteArray, e = .returned (.string t) ∧ t.data.toList = Lib.decDigits n ∧ t.size ≤ d + 1) ∧ Below w.heap.size w w' := by
  induction d with
  | zero =>
    intro n hn _ w
    have h10 : n < 10 := by simpa using hn
    refine (sDec1 n h10 w).mono ?_
    rintro e w' ⟨⟨t, rfl, h1, _⟩, h2⟩
    refine ⟨⟨t, rfl, h1, ?_⟩, h2⟩
    rw [← baLen, h1, Lib.decDigits_one h10]; simp
  | succ d ih =>
    intro n hn hd w
    by_cases h10 : n < 10
    · refine (sDec1 n h10 w).mono ?_
      rintro e w' ⟨⟨t, rfl, h1, _⟩, h2⟩
      refine ⟨⟨t, rfl, h1, ?_⟩, h2⟩
      rw [← baLen, h1, Lib.decDigits_one h10]; simp
    have hb : n < 10 ^ 19 := Nat.lt_of_lt_of_le hn (Nat.pow_le_pow_right (by omega) (by omega))
    have d0 : ¬ (n : Int) < 0 := by omega
    have d1 : ¬ (n : Int) < 10 := by omega
    have DD : Hid (Lib.decDigits n = Lib.decDigits (n / 10) ++ [UInt8.ofNat (48 + n % 10)]) := by show _ = _; rw [Lib.decDigits, dif_neg h10]
    have hq0 : n / 10 < 10 ^ (d + 1) := by
      rw [Nat.pow_succ] at hn
      omega
    have K := fun w => hid (ih (n / 10) hq0 (by omega) w)
    obtain ⟨q, hq⟩ : ∃ q, q = n / 10 := ⟨_, rfl⟩
    obtain ⟨r, hr⟩ : ∃ r, r = n % 10 := ⟨_, rfl⟩
    have hr10 : r < 10 := by omega
    have e1 : (n : Int).tdiv 10 = (q : Int) := by rw [Int.tdiv_eq_ediv_of_nonneg (by omega)]; omega
    have e1' : (n : Int) / 10 = (q : Int) := by omega
    have e2 : (n : Int).tmod 10 = (r : Int) := by rw [Int.tmod_eq_emod_of_nonneg (by omega)]; omega
    have e2' : (n : Int) % 10 = (r : Int) := by omega
    rw [← hq] at K DD
    rw [← hr] at DD
    have hqb : q < 1000000000000000000 := by omega
    clear hq hr ih hn hq0
    have B1 : Hid (∀ o, Below w.heap.size w (w.alloc o)) := fun o => (Below.refl _ w).alloc (Nat.le_refl _) _
    go_enter Tryd.func6, Tryd.ntmps6
    go_wp2_with fail
    have cvA : ∀ (W : World) d, (convert 25 9 (.slice (some ⟨W.heap.size, 0, none⟩) 1 1)).run Tryd.prog (W.alloc (.cells #[.int .u8 d] 5)) = .ok (.string (strOfNums [d])) (W.alloc (.cells #[.int .u8 d] 5)) := fun W d => convGw _ W.heap.size d ((RowAt.new W _ _).cell 0)
    have cvB : ∀ (W : World) d, (convert 25 9 (.slice (some ⟨W.heap.size, 0, none⟩) 1 1)).run Tryd.prog (W.alloc (.cells #[.int .u8 d] 5)).drew = .ok (.string (strOfNums [d])) (W.alloc (.cells #[.int .u8 d] 5)).drew := fun W d => convGw _ W.heap.size d ((RowAt.new W _ _).cell 0)
    go_region_with ((go_at_call 6; refine (sDecz _ q (by first | rfl | exact e1 | (rw [e1]; rfl) | (rw [e1, IntKind.wrap_i64]; omega) | (rw [IntKind.wrap_i64]; omega)) (K _).out).mono ?_; rintro e w2 ⟨⟨t, rfl, hl, ht⟩, hb2⟩; have z1 : ∀ d, ¬ 9223372036854775807 < t.size + (strOfNums [d]).size := (fun d => by rw [str1w]; omega); (first | have cvC := convGw w2 w.heap.size _ ((hb2.cell (p := ⟨w.heap.size, 0, none⟩) (by simp)).trans ((RowAt.new w 5 #[_]).cell 0)) | skip)))
    all_goals go_wp2
    all_goals go_ret
    all_goals refine ⟨⟨_, rfl, by rw [ba_app, hl, wrp r hr10, str1d, DD.out], by rw [sizeApp, str1w]; omega⟩, ?_⟩
    all_goals first
      | exact ((Below.refl _ w).drew.trans hb2).alloc (((Below.refl _ w).drew.trans hb2).size) _
      | exact ((B1.out _).drew.trans (hb2.mono (B1.out _).drew.size))
      | exact ((B1.out _).trans (hb2.mono (B1.out _).size))
theorem wrpN (r : Nat) (h : r < 10) : IntKind.u8.wrap (IntKind.i64.wrap (48 - -(r : Int))) = 48 + (r : Int) := by
  rw [IntKind.wrap_i64]
  simp [IntKind.wrap, IntKind.bits, IntKind.signed]
  omega
set_option maxRecDepth 20000 in
set_option maxHeartbeats 1000000 in
theorem sNeg1 (z : Int) (n : Nat) (hz : z = -(n : Int)) (h1 : 1 ≤ n) (hn : n < 10) (w : World) :
    Calls Tryd.prog 6 #[.int .i64 z] w fun e w' => (∃ t : ByteArray, e = .returned (.string t) ∧ t.data.toList = 45 :: Lib.decDigits n ∧ t.size ≤ 20) ∧ Below w.heap.size w w' := by
  have d0 : z < 0 := by omega
  have d1 : -10 < z := by omega
  have K := hid (sDec1 n hn w)
  have HZ : Hid (-z = (n : Int)) := by show _ = _; omega
  have hb1 : -z < 10 := by omega
  clear hz
  go_enter Tryd.func6, Tryd.ntmps6
  go_wp2_with fail
  refine (sDecz _ n (by first | exact HZ.out | (rw [IntKind.wrap_i64]; have := HZ.out; omega)) K.out).mono ?_
  rintro e w1 ⟨⟨t, rfl, h1, h2⟩, hb⟩
  have z0 : ¬ 9223372036854775807 < 1 + t.size := by omega
  have B := hid hb
  have T1 := hid h1
  clear hb h1
  go_wp2
  go_ret
  exact ⟨⟨_, rfl, by rw [ba_app, T1.out]; rfl, by rw [sizeApp]; show 1 + t.size ≤ 20; omega⟩, B.out⟩
set_option maxRecDepth 20000 in
set_option maxHeartbeats 1000000 in
theorem sNegS (d : Nat) : ∀ (z : Int) (n : Nat), z = -(n : Int) → 1 ≤ n → n < 10 ^ (d + 1) → d ≤ 18 → ∀ w : World,
    Calls Tryd.prog 6 #[.int .i64 z] w fun e w' => (∃ t : ByteArray, e = .returned (.string t) ∧ t.data.toList = 45 :: Lib.decDigits n ∧ t.size ≤ d + 20) ∧ Below w.heap.size w w' := by
  induction d with
  | zero =>
    intro z n hz h1 hn _ w
    exact sNeg1 z n hz h1 (by simpa using hn) w
  | succ d ih =>
    intro z n hz h1 hn hd w
    by_cases h10 : n < 10
    · refine (sNeg1 z n hz h1 h10 w).mono ?_
      rintro e w' ⟨⟨t, rfl, h1, h3⟩, h2⟩
      exact ⟨⟨t, rfl, h1, by omega⟩, h2⟩
    have hb : n < 10 ^ 19 := Nat.lt_of_lt_of_le hn (Nat.pow_le_pow_right (by omega) (by omega))
    have d0 : z < 0 := by omega
    have d1 : ¬ -10 < z := by omega
    have DD : Hid (Lib.decDigits n = Lib.decDigits (n / 10) ++ [UInt8.ofNat (48 + n % 10)]) := by show _ = _; rw [Lib.decDigits, dif_neg h10]
    have hq0 : n / 10 < 10 ^ (d + 1) := by
      rw [Nat.pow_succ] at hn
      omega
    have K := fun w => hid (ih (-((n / 10 : Nat) : Int)) (n / 10) rfl (by omega) hq0 (by omega) w)
    obtain ⟨q, hq⟩ : ∃ q, q = n / 10 := ⟨_, rfl⟩
    obtain ⟨r, hr⟩ : ∃ r, r = n % 10 := ⟨_, rfl⟩
    have hr10 : r < 10 := by omega
    have e1 : z.tdiv 10 = -(q : Int) := by rw [hz, Int.neg_tdiv, Int.tdiv_eq_ediv_of_nonneg (by omega)]; omega
    have e2 : z.tmod 10 = -(r : Int) := by rw [hz, Int.neg_tmod, Int.tmod_eq_emod_of_nonneg (by omega)]; omega
    rw [← hq] at K DD
    rw [← hr] at DD
    have hqb : q < 1000000000000000000 := by omega
    have hs : ∀ (W : World) (R : Ending → World → Prop) (x : Int), x = -(q : Int) → Calls Tryd.prog 6 #[.int .i64 (-(q : Int))] W R → Calls Tryd.prog 6 #[.int .i64 x] W R := fun W R x hx h => by rw [hx]; exact h
    have HS := hid hs
    clear hq hr ih hn hq0 hz hs h10
    have B1 : Hid (∀ o, Below w.heap.size w (w.alloc o)) := fun o => (Below.refl _ w).alloc (Nat.le_refl _) _
    go_enter Tryd.func6, Tryd.ntmps6
    go_wp2_with fail
    have cvA : ∀ (W : World) d, (convert 25 9 (.slice (some ⟨W.heap.size, 0, none⟩) 1 1)).run Tryd.prog (W.alloc (.cells #[.int .u8 d] 5)) = .ok (.string (strOfNums [d])) (W.alloc (.cells #[.int .u8 d] 5)) := fun W d => convGw _ W.heap.size d ((RowAt.new W _ _).cell 0)
    have cvB : ∀ (W : World) d, (convert 25 9 (.slice (some ⟨W.heap.size, 0, none⟩) 1 1)).run Tryd.prog (W.alloc (.cells #[.int .u8 d] 5)).drew = .ok (.string (strOfNums [d])) (W.alloc (.cells #[.int .u8 d] 5)).drew := fun W d => convGw _ W.heap.size d ((RowAt.new W _ _).cell 0)
    go_region_with ((go_at_call 6; refine (HS.out _ _ _ (by first | rfl | exact e1 | (rw [e1]; rfl) | (rw [e1, IntKind.wrap_i64]; omega) | (rw [IntKind.wrap_i64]; omega)) (K _).out).mono ?_; rintro e w2 ⟨⟨t, rfl, hl, ht⟩, hb2⟩; have z1 : ∀ d, ¬ 9223372036854775807 < t.size + (strOfNums [d]).size := (fun d => by rw [str1w]; omega); (first | have cvC := convGw w2 w.heap.size _ ((hb2.cell (p := ⟨w.heap.size, 0, none⟩) (by simp)).trans ((RowAt.new w 5 #[_]).cell 0)) | skip)))
    all_goals go_wp2
    all_goals go_ret
    all_goals refine ⟨⟨_, rfl, by rw [ba_app, hl, wrp r hr10, str1d, DD.out]; rfl, by rw [sizeApp, str1w]; omega⟩, ?_⟩
    all_goals first
      | exact ((Below.refl _ w).drew.trans hb2).alloc (((Below.refl _ w).drew.trans hb2).size) _
      | exact ((B1.out _).drew.trans (hb2.mono (B1.out _).drew.size))
      | exact ((B1.out _).trans (hb2.mono (B1.out _).size))
/-- every number of 64 bits -/
theorem sDecZ (z : Int) (h0 : -9223372036854775808 ≤ z) (h1 : z ≤ 9223372036854775807) (w : World) :
    Calls Tryd.prog 6 #[.int .i64 z] w fun e w' => (∃ t : ByteArray, e = .returned (.string t) ∧ t = ⟨(Lib.itoa z).toArray⟩ ∧ t.size ≤ 40) ∧ Below w.heap.size w w' := by
  have ext : ∀ (t : ByteArray) (l : List UInt8), t.data.toList = l → t = ⟨l.toArray⟩ := fun t l h => by cases t; subst h; simp
  by_cases hz : z < 0
  · refine (sNegS 18 z z.natAbs (by omega) (by omega) (by omega) (Nat.le_refl _) w).mono ?_
    rintro e w' ⟨⟨t, rfl, h1, h3⟩, h2⟩
    refine ⟨⟨t, rfl, ext _ _ ?_, by omega⟩, h2⟩
    unfold Lib.itoa
    rw [if_pos hz]; exact h1
  · refine (sDecz z z.toNat (by omega) (sDecS 18 z.toNat (by omega) (Nat.le_refl _) w)).mono ?_
    rintro e w' ⟨⟨t, rfl, h1, h3⟩, h2⟩
    refine ⟨⟨t, rfl, ext _ _ ?_, by omega⟩, h2⟩
    unfold Lib.itoa
    rw [if_neg hz]; exact h1
end Go.Proofs.YtofkfepfoieohaaDoor
