import Derived.Test.YtkcjigelenofhaaGreatDoorD0
import Derived.Test.YtkcjigelenofhaaGreatDoorG1
import Derived.Deep.RegionWith
import Derived.Deep.RegionHeld3
import Derived.Deep.DrawnRows
import Derived.Lib.ConvBytes
import Derived.Test.YtkcjigelenofhaaGreatDoorG8
namespace Go.Proofs.YtkcjigelenofhaaGreatDoor
open Go.RowKit
attribute [local go_sem ↓] Go.wp_at_zero Go.wp_at_succ
theorem grown_drewS (w : World) (r : Option Nat) : w.grownBy w.drew r := ⟨rfl, rfl, rfl, Nat.le_refl _, fun _ _ _ => rfl⟩
theorem Src.drew {W0 w : World} {c : Nat} {a : Option Addr} {len cap p : Nat} (h : Src W0 w c a len cap p) : Src W0 w.drew c a len cap p :=
 h.far (grown_drewS w none) (by simp) (by intro g hg; cases hg)
theorem Src.alloc {W0 w : World} {c : Nat} {a : Option Addr} {len cap p : Nat} (h : Src W0 w c a len cap p) (o : Obj) : Src W0 (w.alloc o) c a len cap p :=
 h.far (World.grownBy_alloc w o none) (by simp) (by intro g hg; cases hg)
theorem convG (w : World) (b : Nat) (d : Int) (h : w.cell? ⟨b, 0, none⟩ = some (.int .u8 d)) : (convert 22 9 (.slice (some ⟨b, 0, none⟩) 1 1)).run Tryz.prog w = .ok (.string (strOfNums [d])) w :=
 run_convert_bytes_arg (P := Tryz.prog) _ 22 5 Tryz.underlying22 Tryz.underlying5 b 0 1 1 [d] rfl (fun i hi => by
  have e : i = 0 := by omega
  subst e
  exact h) 9 Tryz.underlying9
theorem str1_size (d : Int) : (strOfNums [d]).size = 1 := by rw [strOfNums_size]; rfl
set_option maxRecDepth 20000 in
set_option maxHeartbeats 1000000 in
theorem dec1 (n : Nat) (hn : n < 10) (w : World) :
 Calls Tryz.prog 50 #[.int .i64 (n : Int)] w fun e w' => (∃ t : ByteArray, e = .returned (.string t) ∧ t.size = 1) ∧ Below w.heap.size w w' := by
 have d0 : ¬ (n : Int) < 0 := by omega
 have d1 : (n : Int) < 10 := by omega
 have B1 : Hid (∀ o, Below w.heap.size w (w.alloc o)) := fun o => (Below.refl _ w).alloc (Nat.le_refl _) _
 have cv := fun d => convG (w.alloc (.cells #[.int .u8 d] 5)) w.heap.size d ((RowAt.new w _ _).cell 0)
 go_enter Tryz.func50, Tryz.ntmps50
 go_wp2
 go_ret
 exact ⟨⟨_, rfl, str1_size _⟩, B1.out _⟩
theorem dec1z (z : Int) (n : Nat) (hz : z = (n : Int)) (hn : n < 10) (w : World) :
 Calls Tryz.prog 50 #[.int .i64 z] w fun e w' => (∃ t : ByteArray, e = .returned (.string t) ∧ t.size = 1) ∧ Below w.heap.size w w' := by subst hz; exact dec1 n hn w
set_option maxRecDepth 20000 in
set_option maxHeartbeats 400000 in
theorem dec_all (n : Nat) (hn : n < 100) (w : World) :
 Calls Tryz.prog 50 #[.int .i64 (n : Int)] w fun e w' => (∃ t : ByteArray, e = .returned (.string t) ∧ t.size ≤ 2) ∧ Below w.heap.size w w' := by
 by_cases h10 : n < 10
 · exact (dec1 n h10 w).mono fun e w' q => ⟨⟨q.1.choose, q.1.choose_spec.1, by have := q.1.choose_spec.2; omega⟩, q.2⟩
 have d0 : ¬ (n : Int) < 0 := by omega
 have d1 : ¬ (n : Int) < 10 := by omega
 obtain ⟨q, hq⟩ : ∃ q, q = n / 10 := ⟨_, rfl⟩
 have hq10 : q < 10 := by omega
 have e1 : (n : Int).tdiv 10 = (q : Int) := by rw [Int.tdiv_eq_ediv_of_nonneg (by omega)]; omega
 have e1' : (n : Int) / 10 = (q : Int) := by omega
 obtain ⟨r, hr⟩ : ∃ r, r = n % 10 := ⟨_, rfl⟩
 have hr10 : r < 10 := by omega
 have e2 : (n : Int).tmod 10 = (r : Int) := by rw [Int.tmod_eq_emod_of_nonneg (by omega)]; omega
 have e2' : (n : Int) % 10 = (r : Int) := by omega
 clear hq hr
 have B1 : Hid (∀ o, Below w.heap.size w (w.alloc o)) := fun o => (Below.refl _ w).alloc (Nat.le_refl _) _
 go_enter Tryz.func50, Tryz.ntmps50
 go_wp2_with fail
 have cvA : ∀ (W : World) d, (convert 22 9 (.slice (some ⟨W.heap.size, 0, none⟩) 1 1)).run Tryz.prog (W.alloc (.cells #[.int .u8 d] 5)) = .ok (.string (strOfNums [d])) (W.alloc (.cells #[.int .u8 d] 5)) := fun W d => convG _ W.heap.size d ((RowAt.new W _ _).cell 0)
 have cvB : ∀ (W : World) d, (convert 22 9 (.slice (some ⟨W.heap.size, 0, none⟩) 1 1)).run Tryz.prog (W.alloc (.cells #[.int .u8 d] 5)).drew = .ok (.string (strOfNums [d])) (W.alloc (.cells #[.int .u8 d] 5)).drew := fun W d => convG _ W.heap.size d ((RowAt.new W _ _).cell 0)
 go_region_with ((go_at_call 50; refine (dec1z _ q (by first | rfl | exact e1 | (rw [e1]; rfl) | (rw [e1, IntKind.wrap_i64]; omega) | (rw [IntKind.wrap_i64]; omega)) hq10 _).mono ?_; rintro e w2 ⟨⟨t, rfl, ht⟩, hb2⟩; have z1 : ∀ d, ¬ 9223372036854775807 < t.size + (strOfNums [d]).size := (fun d => by rw [str1_size]; omega); (first | have cvC := convG w2 w.heap.size _ ((hb2.cell (p := ⟨w.heap.size, 0, none⟩) (by simp)).trans ((RowAt.new w 5 #[_]).cell 0)) | skip)))
 all_goals go_wp2
 all_goals go_ret
 all_goals refine ⟨⟨_, rfl, by rw [ByteArray.size_append, str1_size]; omega⟩, ?_⟩
 all_goals first
  | exact ((Below.refl _ w).drew.trans hb2).alloc (((Below.refl _ w).drew.trans hb2).size) _
  | exact ((B1.out _).drew.trans (hb2.mono (B1.out _).drew.size))
  | exact ((B1.out _).trans (hb2.mono (B1.out _).size))
theorem Tryz.infoU8 : (Tryz.prog.info? 5).map (fun i => (i.zero, i.size, i.bytes)) = some (some (.int .u8 0), 1, 1) := by kernel_rfl
set_option maxRecDepth 20000 in
set_option maxHeartbeats 1000000 in
theorem word_all (W0 w : World) (c : Nat) (a : Option Addr) (len cap p : Nat) (h : Src W0 w c a len cap p) (hp : p ≤ 1000000) :
 Calls Tryz.prog 68 #[.pointer (some ⟨c, 0, none⟩)] w fun e w' => (∃ t : ByteArray, e = .returned (.string t) ∧ t.size ≤ 6) ∧ (∃ p', Src W0 w' c a len cap p' ∧ p' ≤ p + 7) ∧ w.grownBy w' (some c) := by
 have hcl := h.lt
 have h0c := h.2.2.2.2
 have S0 : Hid (Src W0 (w.alloc (.cells #[] 5)) c a len cap p) := h.alloc _
 have O0 : Hid (OwnNums (w.alloc (.cells #[] 5)) w.heap.size 5 .u8 (.slice (some ⟨w.heap.size, 0, none⟩) 0 0) []) := OwnNums.empty w _ _
 have G0 : Hid (w.grownBy (w.alloc (.cells #[] 5)) (some c)) := World.grownBy_alloc w _ _
 clear h
 go_enter Tryz.func68, Tryz.ntmps68
 go_wp2_with fail
 refine (n_all W0 _ c a len cap p 6 S0.out (by omega) (by omega) (by omega)).mono ?_
 rintro e w1 ⟨⟨r, rfl, hr0, hr1⟩, hs1, hg1⟩
 obtain ⟨R, rfl⟩ := Int.eq_ofNat_of_zero_le hr0
 have S1 := hid hs1
 have O1 := hid (O0.out.kept hg1 hcl)
 have G1 := hid (grown_trans G0.out hg1)
 clear hs1 hg1 S0 O0 G0
 go_wp2_with fail
 go_loopw [3, 4] (fun v q wr => ∃ (k pp : Nat) (xs : List Int), k ≤ R + 1 ∧ q = .int .i64 (k : Int) ∧ xs.length + k = R + 1 ∧ pp + k = p + 1 + (R + 1) ∧ OwnNums wr w.heap.size 5 .u8 v xs ∧ Src W0 wr c a len cap pp ∧ w.grownBy wr (some c)) (fun _ q _ => (intOf q).toNat)
 case atStart => exact ⟨R + 1, p + 1, [], Nat.le_refl _, by go_num, by simp, by omega, O1.out, S1.out, G1.out⟩
 case round =>
  obtain ⟨k, pp, xs, hk, rfl, hxk, hpk, hO, hS, hG⟩ := hrel
  have HO := hid hO
  have HS := hid hS
  have HG := hid hG
  clear hO hS hG
  have hR6 : R < 6 := by omega
  by_cases hlt : 0 < k
  · have d0 : (0 : Int) < (k : Int) := by omega
    go_wp2_with fail
    refine (n_all W0 _ c a len cap pp 26 HS.out (by omega) (by omega) (by omega)).mono ?_
    rintro e w2 ⟨⟨r2, rfl, hr20, hr21⟩, hs2, hg2⟩
    obtain ⟨T, rfl⟩ := Int.eq_ofNat_of_zero_le hr20
    have hT : T < 26 := by omega
    have S2 := hid hs2
    have O2 := hid (HO.out.kept hg2 hcl)
    have G2 := hid (grown_trans HG.out hg2)
    have Z2 : Hid (w.heap.size ≤ w2.heap.size) := G2.out.size
    clear hs2 hg2
    go_wp2_with (at_builtin; refine append_num2 w.heap.size w2 rfl (.tmp 13) (.tmp 17) 22 rfl 5 .u8 1 Tryz.underlying22 Tryz.infoU8 (by decide) _ xs _ rfl O2.out Z2.out rfl (by omega) ?_; intro v' w3 ho3 hg3)
    have S3 : Hid (Src W0 w3 c a len cap (pp + 1)) := S2.out.far hg3 (fun e => by have := (World.ownsRow.lt O2.out _ e.symm).1; omega) (fun g hg => by have := (World.ownsRow.lt O2.out _ hg).1; omega)
    have G3 : Hid (w.grownBy w3 (some c)) := grown_own G2.out hg3 (fun g hg => (World.ownsRow.lt O2.out _ hg).1) (Nat.le_refl _)
    have O3 := hid ho3
    clear ho3 hg3
    go_wp2
    go_roundw
    case rel => exact ⟨k - 1, pp + 1, _, by omega, by go_num, by rw [List.length_append]; simp; omega, by omega, O3.out, S3.out, G3.out⟩
    case measure => simp [intOf]; omega
  · have d0 : ¬ (0 : Int) < (k : Int) := by omega
    have hcv := conv_owned wr 22 5 9 Tryz.underlying22 Tryz.underlying5 Tryz.underlying9 HO.out
    go_wp2
    go_ret
    exact ⟨⟨_, rfl, by rw [strOfNums_size]; omega⟩, ⟨pp, HS.out, by omega⟩, HG.out⟩
end Go.Proofs.YtkcjigelenofhaaGreatDoor
namespace Go.Proofs.YtkcjigelenofhaaGreatDoor
open Go.RowKit
def sel (b : Bool) (v o : Value) : Value := cond b v o
theorem rowF {w w' : World} {b c : Nat} {t : TypeId} {cs : Array Value} (h : RowAt w b t cs) (hg : w.grownBy w' (some c)) (hn : c < b) : RowAt w' b t cs := (hg.block b h.lt (fun e => by cases e; omega)).trans h
theorem grown_setCellF (w : World) (b k : Nat) (v : Value) : w.grownBy (w.setCell ⟨b, k, none⟩ v) (some b) :=
 ⟨rfl, rfl, rfl, by simp, fun j _ hj => heap_setCell_other w ⟨b, k, none⟩ j v (fun e => hj (by rw [e]))⟩
theorem Src.set {W0 w : World} {c : Nat} {a : Option Addr} {len cap p : Nat} (h : Src W0 w c a len cap p) {b : Nat} (hb : c < b) (k : Nat) (v : Value) : Src W0 (w.setCell ⟨b, k, none⟩ v) c a len cap p :=
 h.far (grown_setCellF w b k v) (fun e => by cases e; omega) (fun g hg => by cases hg; have := h.2.2.2.2; omega)
theorem grown_far {X w : World} {r : Option Nat} (h : X.grownBy w r) {b : Nat} (hb : X.heap.size ≤ b) (k : Nat) (v : Value) : X.grownBy (w.setCell ⟨b, k, none⟩ v) r :=
 ⟨h.os, h.tape, h.output, by simp [h.size], fun j hj hr => (heap_setCell_other w ⟨b, k, none⟩ j v (by simp; omega)).trans (h.block j hj hr)⟩
theorem grown_al {X w : World} {r : Option Nat} (h : X.grownBy w r) (o : Obj) : X.grownBy (w.alloc o) r := grown_trans h (World.grownBy_alloc w o r)
theorem Src.belowD {W0 w w' : World} {c : Nat} {a : Option Addr} {len cap p : Nat} (h : Src W0 w c a len cap p) (hb : Below w.heap.size w w') : Src W0 w' c a len cap p :=
 h.far (below_grown hb none) (by simp) (by intro g hg; cases hg)
theorem RowAt.nxD {X w1 : World} {b : Nat} {t : TypeId} {c : Array Value} (hb : Below X.heap.size X w1) (h : RowAt X b t c) : RowAt w1 b t c := h.below hb h.lt
theorem rowF2 {w w' : World} {b c : Nat} {t : TypeId} {cs : Array Value} (h : RowAt w b t cs) (hg : w.grownBy w' (some c)) (hn : c ≠ b) : RowAt w' b t cs := (hg.block b h.lt (fun e => by cases e; exact hn rfl)).trans h
theorem grown_setRowD {X w : World} {r : Option Nat} (h : X.grownBy w r) {b : Nat} (hb : X.heap.size ≤ b) (c : Array Value) : X.grownBy (w.setRow b c) r :=
 ⟨h.os, h.tape, h.output, by simp [World.setRow, h.size], fun j hj hr => (setRow_other w b j c (by omega)).trans (h.block j hj hr)⟩
theorem Src.setRowD {W0 w : World} {c : Nat} {a : Option Addr} {len cap p : Nat} (h : Src W0 w c a len cap p) {b : Nat} (hb : c < b) (cs : Array Value) : Src W0 (w.setRow b cs) c a len cap p :=
 h.far (r := some b) ⟨rfl, rfl, rfl, by simp [World.setRow], fun j _ hr => setRow_other w b j cs (fun e => hr (by rw [e]))⟩ (fun e => by cases e; omega) (fun g hg => by cases hg; have := h.2.2.2.2; omega)
end Go.Proofs.YtkcjigelenofhaaGreatDoor
namespace Go.Proofs.YtkcjigelenofhaaGreatDoor
open Go.RowKit
theorem Tryz.infoHpF : (Tryz.prog.info? 66).map (fun i => (i.zero, i.size, i.bytes)) = some (some hz2, 2, 32) := by kernel_rfl
theorem OwnHp.setRow {w : World} {base b : Nat} {v : Value} {L : List Hp} (h : OwnHp w base v L) (hb : b < base) (c : Array Value) : OwnHp (w.setRow b c) base v L := by
 refine ⟨h.1, ?_⟩
 rcases h.2 with h2 | ⟨g, cap, cur, e1, e2, e3, e4⟩
 · exact .inl h2
 · exact .inr ⟨g, cap, cur, e1, e2, by rw [setRow_other w b g c (by omega)]; exact e3, e4⟩
end Go.Proofs.YtkcjigelenofhaaGreatDoor
namespace Go.Proofs.YtkcjigelenofhaaGreatDoor
open Go.RowKit
section
variable {m p : ByteArray} {Q H : List Hp} {f line : Nat} {R t R' : List UInt8}
end
end Go.Proofs.YtkcjigelenofhaaGreatDoor
