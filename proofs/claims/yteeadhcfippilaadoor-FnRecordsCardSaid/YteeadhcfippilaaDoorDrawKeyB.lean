import Derived.Test.YteeadhcfippilaaDoorDraw2
import Derived.Test.YteeadhcfippilaaDoorFRow
import Derived.Deep.RegionWith
import Derived.Deep.RegionHeld3
import Derived.Deep.DrawnRows
import Derived.Lib.ConvBytes
namespace Go.Proofs.YteeadhcfippilaaDoor
open Go.RowKit
attribute [local go_sem ↓] Go.wp_at_zero Go.wp_at_succ
theorem grown_drewS (w : World) (r : Option Nat) : w.grownBy w.drew r := ⟨rfl, rfl, rfl, Nat.le_refl _, fun _ _ _ => rfl⟩
theorem Src.drew {W0 w : World} {c : Nat} {a : Option Addr} {len cap p : Nat} (h : Src W0 w c a len cap p) : Src W0 w.drew c a len cap p :=
  h.far (grown_drewS w none) (by simp) (by intro g hg; cases hg)
theorem Src.alloc {W0 w : World} {c : Nat} {a : Option Addr} {len cap p : Nat} (h : Src W0 w c a len cap p) (o : Obj) : Src W0 (w.alloc o) c a len cap p :=
  h.far (World.grownBy_alloc w o none) (by simp) (by intro g hg; cases hg)
/-- a byte that stands alone, as a text -/
theorem convG (w : World) (b : Nat) (d : Int) (h : w.cell? ⟨b, 0, none⟩ = some (.int .u8 d)) : (convert 22 9 (.slice (some ⟨b, 0, none⟩) 1 1)).run Tryd.prog w = .ok (.string (strOfNums [d])) w :=
  run_convert_bytes_arg (P := Tryd.prog) _ 22 5 Tryd.underlying22 Tryd.underlying5 b 0 1 1 [d] rfl (fun i hi => by
    have e : i = 0 := by omega
    subst e
    exact h) 9 Tryd.underlying9
theorem str1_size (d : Int) : (strOfNums [d]).size = 1 := by rw [strOfNums_size]; rfl
set_option maxRecDepth 20000 in
set_option maxHeartbeats 1000000 in
theorem dec1 (n : Nat) (hn : n < 10) (w : World) :
    Calls Tryd.prog 29 #[.int .i64 (n : Int)] w fun e w' => (∃ t : ByteArray, e = .returned (.string t) ∧ t.size = 1) ∧ Below w.heap.size w w' := by
  have d0 : ¬ (n : Int) < 0 := by omega
  have d1 : (n : Int) < 10 := by omega
  have B1 : Hid (∀ o, Below w.heap.size w (w.alloc o)) := fun o => (Below.refl _ w).alloc (Nat.le_refl _) _
  have cv := fun d => convG (w.alloc (.cells #[.int .u8 d] 5)) w.heap.size d ((RowAt.new w _ _).cell 0)
  go_enter Tryd.func29, Tryd.ntmps29
  go_wp2
  go_ret
  exact ⟨⟨_, rfl, str1_size _⟩, B1.out _⟩
theorem dec1z (z : Int) (n : Nat) (hz : z = (n : Int)) (hn : n < 10) (w : World) :
    Calls Tryd.prog 29 #[.int .i64 z] w fun e w' => (∃ t : ByteArray, e = .returned (.string t) ∧ t.size = 1) ∧ Below w.heap.size w w' := by subst hz; exact dec1 n hn w
set_option maxRecDepth 20000 in
set_option maxHeartbeats 400000 in
theorem dec_all (n : Nat) (hn : n < 100) (w : World) :
    Calls Tryd.prog 29 #[.int .i64 (n : Int)] w fun e w' => (∃ t : ByteArray, e = .returned (.string t) ∧ t.size ≤ 2) ∧ Below w.heap.size w w' := by
  by_cases h10 : n < 10
  · exact (dec1 n h10 w).mono fun e w' q => ⟨⟨q.1.choose, q.1.choose_spec.1, by have := q.1.choose_spec.2; omega⟩, q.2⟩
  have d0 : ¬ (n : Int) < 0 := by omega
  have d1 : ¬ (n : Int) < 10 := by omega
  obtain ⟨q, hq⟩ : ∃ q, q = n / 10 := ⟨_, rfl⟩
  have hq10 : q < 10 := by omega
  have e1 : (n : Int).tdiv 10 = (q : Int) := by rw [Int.tdiv_eq_ediv_of_nonneg (by omega)]; omega
  have e1' : (n : Int) / 10 = (q : Int) := by omega
  obtain ⟨r, hr⟩ : ∃ r, r = n % 10 := ⟨_, rfl⟩
  have hr10 : r < 10 := by omega
  have e2 : (n : Int).tmod 10 = (r : Int) := by rw [Int.tmod_eq_emod_of_nonneg (by omega)]; omega
  have e2' : (n : Int) % 10 = (r : Int) := by omega
  clear hq hr
  have B1 : Hid (∀ o, Below w.heap.size w (w.alloc o)) := fun o => (Below.refl _ w).alloc (Nat.le_refl _) _
  go_enter Tryd.func29, Tryd.ntmps29
  go_wp2_with fail
  have cvA : ∀ (W : World) d, (convert 22 9 (.slice (some ⟨W.heap.size, 0, none⟩) 1 1)).run Tryd.prog (W.alloc (.cells #[.int .u8 d] 5)) = .ok (.string (strOfNums [d])) (W.alloc (.cells #[.int .u8 d] 5)) := fun W d => convG _ W.heap.size d ((RowAt.new W _ _).cell 0)
  have cvB : ∀ (W : World) d, (convert 22 9 (.slice (some ⟨W.heap.size, 0, none⟩) 1 1)).run Tryd.prog (W.alloc (.cells #[.int .u8 d] 5)).drew = .ok (.string (strOfNums [d])) (W.alloc (.cells #[.int .u8 d] 5)).drew := fun W d => convG _ W.heap.size d ((RowAt.new W _ _).cell 0)
  go_region_with ((go_at_call 29; refine (dec1z _ q (by first | rfl | exact e1 | (rw [e1]; rfl) | (rw [e1, IntKind.wrap_i64]; omega) | (rw [IntKind.wrap_i64]; omega)) hq10 _).mono ?_; rintro e w2 ⟨⟨t, rfl, ht⟩, hb2⟩; have z1 : ∀ d, ¬ 9223372036854775807 < t.size + (strOfNums [d]).size := (fun d => by rw [str1_size]; omega); (first | have cvC := convG w2 w.heap.size _ ((hb2.cell (p := ⟨w.heap.size, 0, none⟩) (by simp)).trans ((RowAt.new w 5 #[_]).cell 0)) | skip)))
  all_goals go_wp2
  all_goals go_ret
  all_goals refine ⟨⟨_, rfl, by rw [ByteArray.size_append, str1_size]; omega⟩, ?_⟩
  all_goals first
    | exact ((Below.refl _ w).drew.trans hb2).alloc (((Below.refl _ w).drew.trans hb2).size) _
    | exact ((B1.out _).drew.trans (hb2.mono (B1.out _).drew.size))
    | exact ((B1.out _).trans (hb2.mono (B1.out _).size))
theorem Tryd.infoU8 : (Tryd.prog.info? 5).map (fun i => (i.zero, i.size, i.bytes)) = some (some (.int .u8 0), 1, 1) := by kernel_rfl
set_option maxRecDepth 20000 in
set_option maxHeartbeats 1000000 in
theorem word_all (W0 w : World) (c : Nat) (a : Option Addr) (len cap p : Nat) (h : Src W0 w c a len cap p) (hp : p ≤ 1000000) :
    Calls Tryd.prog 28 #[.pointer (some ⟨c, 0, none⟩)] w fun e w' => (∃ t : ByteArray, e = .returned (.string t) ∧ t.size ≤ 6) ∧ (∃ p', Src W0 w' c a len cap p' ∧ p' ≤ p + 7) ∧ w.grownBy w' (some c) := by
  have hcl := h.lt
  have h0c := h.2.2.2.2
  have S0 : Hid (Src W0 (w.alloc (.cells #[] 5)) c a len cap p) := h.alloc _
  have O0 : Hid (OwnNums (w.alloc (.cells #[] 5)) w.heap.size 5 .u8 (.slice (some ⟨w.heap.size, 0, none⟩) 0 0) []) := OwnNums.empty w _ _
  have G0 : Hid (w.grownBy (w.alloc (.cells #[] 5)) (some c)) := World.grownBy_alloc w _ _
  clear h
  go_enter Tryd.func28, Tryd.ntmps28
  go_wp2_with fail
  refine (n_all W0 _ c a len cap p 6 S0.out (by omega) (by omega) (by omega)).mono ?_
  rintro e w1 ⟨⟨r, rfl, hr0, hr1⟩, hs1, hg1⟩
  obtain ⟨R, rfl⟩ := Int.eq_ofNat_of_zero_le hr0
  have S1 := hid hs1
  have O1 := hid (O0.out.kept hg1 hcl)
  have G1 := hid (grown_trans G0.out hg1)
  clear hs1 hg1 S0 O0 G0
  go_wp2_with fail
  go_loopw [3, 4] (fun v q wr => ∃ (k pp : Nat) (xs : List Int), k ≤ R + 1 ∧ q = .int .i64 (k : Int) ∧ xs.length + k = R + 1 ∧ pp + k = p + 1 + (R + 1) ∧ OwnNums wr w.heap.size 5 .u8 v xs ∧ Src W0 wr c a len cap pp ∧ w.grownBy wr (some c)) (fun _ q _ => (intOf q).toNat)
  case atStart => exact ⟨R + 1, p + 1, [], Nat.le_refl _, by go_num, by simp, by omega, O1.out, S1.out, G1.out⟩
  case round =>
    obtain ⟨k, pp, xs, hk, rfl, hxk, hpk, hO, hS, hG⟩ := hrel
    have HO := hid hO
    have HS := hid hS
    have HG := hid hG
    clear hO hS hG
    have hR6 : R < 6 := by omega
    by_cases hlt : 0 < k
    · have d0 : (0 : Int) < (k : Int) := by omega
      go_wp2_with fail
      refine (n_all W0 _ c a len cap pp 26 HS.out (by omega) (by omega) (by omega)).mono ?_
      rintro e w2 ⟨⟨r2, rfl, hr20, hr21⟩, hs2, hg2⟩
      obtain ⟨T, rfl⟩ := Int.eq_ofNat_of_zero_le hr20
      have hT : T < 26 := by omega
      have S2 := hid hs2
      have O2 := hid (HO.out.kept hg2 hcl)
      have G2 := hid (grown_trans HG.out hg2)
      have Z2 : Hid (w.heap.size ≤ w2.heap.size) := G2.out.size
      clear hs2 hg2
      go_wp2_with (at_builtin; refine append_num2 w.heap.size w2 rfl (.tmp 13) (.tmp 17) 22 rfl 5 .u8 1 Tryd.underlying22 Tryd.infoU8 (by decide) _ xs _ rfl O2.out Z2.out rfl (by omega) ?_; intro v' w3 ho3 hg3)
      have S3 : Hid (Src W0 w3 c a len cap (pp + 1)) := S2.out.far hg3 (fun e => by have := (World.ownsRow.lt O2.out _ e.symm).1; omega) (fun g hg => by have := (World.ownsRow.lt O2.out _ hg).1; omega)
      have G3 : Hid (w.grownBy w3 (some c)) := grown_own G2.out hg3 (fun g hg => (World.ownsRow.lt O2.out _ hg).1) (Nat.le_refl _)
      have O3 := hid ho3
      clear ho3 hg3
      go_wp2
      go_roundw
      case rel => exact ⟨k - 1, pp + 1, _, by omega, by go_num, by rw [List.length_append]; simp; omega, by omega, O3.out, S3.out, G3.out⟩
      case measure => simp [intOf]; omega
    · have d0 : ¬ (0 : Int) < (k : Int) := by omega
      have hcv := conv_owned wr 22 5 9 Tryd.underlying22 Tryd.underlying5 Tryd.underlying9 HO.out
      go_wp2
      go_ret
      exact ⟨⟨_, rfl, by rw [strOfNums_size]; omega⟩, ⟨pp, HS.out, by omega⟩, HG.out⟩
theorem row_far {w w' : World} {b c : Nat} {t : TypeId} {cs : Array Value} (h : RowAt w b t cs) (hg : w.grownBy w' (some c)) (hn : b ≠ c) : RowAt w' b t cs := (hg.block b h.lt (fun e => hn (Option.some.inj e))).trans h
theorem keyC_at (k : Nat) (hk : k < 4) : ∃ t : ByteArray, (#[.string ⟨#[]⟩, .string ⟨#[47]⟩, .string ⟨#[46]⟩, .string ⟨#[47, 97]⟩] : Array Value)[k]? = some (.string t) ∧ t.size ≤ 2 := by
  rcases (by omega : k = 0 ∨ k = 1 ∨ k = 2 ∨ k = 3) with rfl | rfl | rfl | rfl
  · exact ⟨_, rfl, by decide⟩
  · exact ⟨_, rfl, by decide⟩
  · exact ⟨_, rfl, by decide⟩
  · exact ⟨_, rfl, by decide⟩
theorem dec_z (z : Int) (h0 : 0 ≤ z) (h1 : z < 50) (w : World) :
    Calls Tryd.prog 29 #[.int .i64 z] w fun e w' => (∃ t : ByteArray, e = .returned (.string t) ∧ t.size ≤ 2) ∧ Below w.heap.size w w' := by
  obtain ⟨n, rfl⟩ := Int.eq_ofNat_of_zero_le h0
  exact dec_all n (by omega) w
set_option maxRecDepth 20000 in
set_option maxHeartbeats 2000000 in
theorem key_all (W0 w : World) (c : Nat) (a : Option Addr) (len cap p : Nat) (h : Src W0 w c a len cap p) (hp : p ≤ 1000000) :
    Calls Tryd.prog 12 #[.pointer (some ⟨c, 0, none⟩)] w fun e w' => (∃ t : ByteArray, e = .returned (.string t) ∧ t.size ≤ 10) ∧ (∃ p', Src W0 w' c a len cap p' ∧ p' ≤ p + 9) ∧ w.grownBy w' (some c) := by
  have hcl := h.lt
  have S0 := hid h
  clear h
  go_enter Tryd.func12, Tryd.ntmps12
  go_wp2_with fail
  go_region_with ((first
    | (go_at_call 28; refine (word_all W0 _ c a len cap p (by first | exact S0.out.drew | exact (S0.out.alloc _).drew) (by omega)).mono ?_; rintro e w2 ⟨⟨t, rfl, ht⟩, ⟨p2, hs2, hp2⟩, hg2⟩; have g2 : w.grownBy w2 (some c) := (by first | exact grown_trans (grown_drewS w _) hg2 | exact grown_trans (grown_trans (World.grownBy_alloc w _ _) (grown_drewS _ _)) hg2))
    | (go_at_call_of 14 (Value.int IntKind.i64 4); refine (n_all W0 _ c a len cap p2 4 (by first | exact hs2 | exact hs2.alloc _) (by omega) (by omega) (by omega)).mono ?_; rintro e w3 ⟨⟨r3, rfl, hr30, hr31⟩, hs3, hg3⟩; obtain ⟨R3, rfl⟩ := Int.eq_ofNat_of_zero_le hr30; obtain ⟨t3, hk3, ht3⟩ := keyC_at R3 (by omega); have g3 : w.grownBy w3 (some c) := (by first | exact grown_trans g2 hg3 | exact grown_trans (grown_trans g2 (World.grownBy_alloc _ _ _)) hg3); have z3 : ¬ 9223372036854775807 < t.size + t3.size := (by omega); have c3n := ((RowAt.new w3 9 #[.string ⟨#[]⟩, .string ⟨#[47]⟩, .string ⟨#[46]⟩, .string ⟨#[47, 97]⟩]).cell R3).trans hk3; (first | (have rk3 := row_far (row_far (RowAt.new w 9 #[.string ⟨#[]⟩, .string ⟨#[47]⟩, .string ⟨#[46]⟩, .string ⟨#[47, 97]⟩]).drew hg2 (by omega)) hg3 (by omega); have c3 := (rk3.cell R3).trans hk3) | (have rk3 := row_far (RowAt.new w2 9 #[.string ⟨#[]⟩, .string ⟨#[47]⟩, .string ⟨#[46]⟩, .string ⟨#[47, 97]⟩]) hg3 (by have := hg2.size; have : w.heap.size ≤ w2.heap.size := this; omega); have c3 := (rk3.cell R3).trans hk3) | skip))
    | (go_at_call_of 14 (Value.int IntKind.i64 50); refine (n_all W0 _ c a len cap (p2 + 1) 50 (by first | exact hs3 | exact hs3.alloc _) (by omega) (by omega) (by omega)).mono ?_; rintro e w4 ⟨⟨r4, rfl, hr40, hr41⟩, hs4, hg4⟩; have hc3 : c < w3.heap.size := hs3.lt; have g4 : w.grownBy w4 (some c) := (by first | exact grown_trans g3 hg4 | exact grown_trans (grown_trans g3 (World.grownBy_alloc _ _ _)) hg4); have c4n := ((RowAt.new w4 9 #[.string ⟨#[]⟩, .string ⟨#[47]⟩, .string ⟨#[46]⟩, .string ⟨#[47, 97]⟩]).cell R3).trans hk3; (first | (have rk4 := row_far rk3 hg4 (by first | omega | (have := hg2.size; have : w.heap.size ≤ w2.heap.size := this; omega)); have c4 := (rk4.cell R3).trans hk3) | (have rk4 := row_far (RowAt.new w3 9 #[.string ⟨#[]⟩, .string ⟨#[47]⟩, .string ⟨#[46]⟩, .string ⟨#[47, 97]⟩]) hg4 (by omega); have c4 := (rk4.cell R3).trans hk3) | skip))
    | (go_at_call 29; refine (dec_z _ hr40 hr41 _).mono ?_; rintro e w5 ⟨⟨t5, rfl, ht5⟩, hb5⟩; have g5 : w.grownBy w5 (some c) := (by first | exact grown_trans g4 (below_grown hb5 _) | exact grown_trans (grown_trans g4 (World.grownBy_alloc _ _ _)) (below_grown hb5 _)); have s5 : Src W0 w5 c a len cap (p2 + 1 + 1) := (by first | exact hs4.far (below_grown hb5 none) (by simp) (by intro g hg; cases hg) | exact (hs4.alloc _).far (below_grown hb5 none) (by simp) (by intro g hg; cases hg)); have z5 : ¬ 9223372036854775807 < (t ++ t3).size + t5.size := (by rw [ByteArray.size_append]; omega); have c5n := ((RowAt.new w5 9 #[.string ⟨#[]⟩, .string ⟨#[47]⟩, .string ⟨#[46]⟩, .string ⟨#[47, 97]⟩]).cell R3).trans hk3; (first | (have rk5 := rk4.below hb5 rk4.lt; have c5 := (rk5.cell R3).trans hk3) | (have rk5 := (RowAt.new w4 9 #[.string ⟨#[]⟩, .string ⟨#[47]⟩, .string ⟨#[46]⟩, .string ⟨#[47, 97]⟩]).below hb5 (by simp); have c5 := (rk5.cell R3).trans hk3) | skip))))
  all_goals go_wp2
  all_goals go_ret
  all_goals first
    | exact ⟨⟨_, rfl, by rw [ByteArray.size_append, ByteArray.size_append]; omega⟩, ⟨_, s5, by omega⟩, g5⟩
    | exact ⟨⟨_, rfl, by rw [ByteArray.size_append, ByteArray.size_append]; omega⟩, ⟨_, s5.alloc _, by omega⟩, grown_trans g5 (World.grownBy_alloc _ _ _)⟩
end Go.Proofs.YteeadhcfippilaaDoor
