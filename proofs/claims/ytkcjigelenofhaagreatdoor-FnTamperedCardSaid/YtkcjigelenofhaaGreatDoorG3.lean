import Derived.Test.YtkcjigelenofhaaGreatDoorBase
import Derived.Test.YtkcjigelenofhaaGreatDoorG1
import Derived.Test.YtkcjigelenofhaaGreatDoorProg
import Derived.Deep.RegionHeld3
import Derived.Deep.DrawnRows
import Derived.Deep.RegionLaw
import Derived.Lib.ItoaNum
import Derived.Lib.ConvBytes
import Derived.Deep.RegionWith
import Derived.WalkSmall
import Derived.Test.YtkcjigelenofhaaGreatDoorR1
namespace Go.Proofs.YtkcjigelenofhaaGreatDoor
open Go.RowKit
def ni (l : List UInt8) : List Int := l.map fun b => (b.toNat : Int)
theorem ni_app (a b : List UInt8) : ni (a ++ b) = ni a ++ ni b := by simp [ni]
theorem ni_len (a : List UInt8) : (ni a).length = a.length := by simp [ni]
theorem ni_str (l : List UInt8) : strOfNums (ni l) = ⟨l.toArray⟩ := by
 unfold strOfNums ni
 congr 1
 rw [List.map_map]
 congr 1
 apply List.ext_getElem
 · simp
 · intro i h1 h2
   simp
def ePl (c : Nat) : Prop := (97 ≤ c ∧ c ≤ 122) ∨ (65 ≤ c ∧ c ≤ 90) ∨ (48 ≤ c ∧ c ≤ 57) ∨ c = 45 ∨ c = 95 ∨ c = 46 ∨ c = 47
instance (c : Nat) : Decidable (ePl c) := by unfold ePl; infer_instance
def eHx (n : Nat) : UInt8 := if n < 10 then UInt8.ofNat (48 + n) else UInt8.ofNat (55 + n)
def e1 (c : UInt8) : List UInt8 := if ePl c.toNat then [c] else [37, eHx (c.toNat / 16), eHx (c.toNat % 16)]
def esc (l : List UInt8) : List UInt8 := l.flatMap e1
theorem esc_snoc (l : List UInt8) (c : UInt8) : esc (l ++ [c]) = esc l ++ e1 c := by simp [esc]
theorem esc_app (a b : List UInt8) : esc (a ++ b) = esc a ++ esc b := by simp [esc]
theorem e1_len (c : UInt8) : 1 ≤ (e1 c).length ∧ (e1 c).length ≤ 3 := by unfold e1; split <;> simp
theorem esc_len (l : List UInt8) : l.length ≤ (esc l).length ∧ (esc l).length ≤ 3 * l.length := by
 induction l with
 | nil => simp [esc]
 | cons c l ih =>
  have h := e1_len c
  have e : esc (c :: l) = e1 c ++ esc l := by simp [esc]
  rw [e, List.length_append, List.length_cons]
  omega
def escV (s : ByteArray) : List UInt8 := if s.size ≤ 100000 then esc s.data.toList else []
end Go.Proofs.YtkcjigelenofhaaGreatDoor
namespace Go.Proofs.YtkcjigelenofhaaGreatDoor
open Go.RowKit
set_option maxRecDepth 20000 in
set_option maxHeartbeats 4000000 in
theorem sPlain (c : Nat) (hc : c < 256) (w : World) :
 Calls Tryz.prog 140 #[.int .u8 (c : Int)] w fun e w' => e = .returned (.bool (decide (ePl c))) ∧ w' = w := by
 rcases (by omega : (0 ≤ c ∧ c ≤ 44) ∨ c = 45 ∨ c = 46 ∨ c = 47 ∨ (48 ≤ c ∧ c ≤ 57) ∨ (58 ≤ c ∧ c ≤ 64) ∨ (65 ≤ c ∧ c ≤ 90) ∨ (91 ≤ c ∧ c ≤ 94) ∨ c = 95 ∨ c = 96 ∨ (97 ≤ c ∧ c ≤ 122) ∨ (123 ≤ c ∧ c ≤ 255)) with h | rfl | rfl | rfl | h | h | h | h | rfl | rfl | h | h
 · have E : Hid (decide (ePl c) = false) := decide_eq_false (by unfold ePl; omega)
   have k0 : ¬ (97 : Int) ≤ (c : Int) := by omega
   have k1 : ¬ (65 : Int) ≤ (c : Int) := by omega
   have k2 : ¬ (48 : Int) ≤ (c : Int) := by omega
   have k3 : ((c : Int) == 45) = false := by simp; omega
   have k4 : ((c : Int) == 95) = false := by simp; omega
   have k5 : ((c : Int) == 46) = false := by simp; omega
   have k6 : ((c : Int) == 47) = false := by simp; omega
   go_enter Tryz.func140, Tryz.ntmps140
   go_wp2
   go_ret
   exact ⟨by rw [E.out]; rfl, rfl⟩
 · have E : Hid (decide (ePl 45) = true) := decide_eq_true (by unfold ePl; omega)
   go_enter Tryz.func140, Tryz.ntmps140
   go_wp2
   go_ret
   exact ⟨by rw [E.out]; rfl, rfl⟩
 · have E : Hid (decide (ePl 46) = true) := decide_eq_true (by unfold ePl; omega)
   go_enter Tryz.func140, Tryz.ntmps140
   go_wp2
   go_ret
   exact ⟨by rw [E.out]; rfl, rfl⟩
 · have E : Hid (decide (ePl 47) = true) := decide_eq_true (by unfold ePl; omega)
   go_enter Tryz.func140, Tryz.ntmps140
   go_wp2
   go_ret
   exact ⟨by rw [E.out]; rfl, rfl⟩
 · have E : Hid (decide (ePl c) = true) := decide_eq_true (by unfold ePl; omega)
   have k0 : ¬ (97 : Int) ≤ (c : Int) := by omega
   have k1 : ¬ (65 : Int) ≤ (c : Int) := by omega
   have k2 : (48 : Int) ≤ (c : Int) := by omega
   have k3 : (c : Int) ≤ 57 := by omega
   have k4 : ((c : Int) == 45) = false := by simp; omega
   have k5 : ((c : Int) == 95) = false := by simp; omega
   have k6 : ((c : Int) == 46) = false := by simp; omega
   have k7 : ((c : Int) == 47) = false := by simp; omega
   go_enter Tryz.func140, Tryz.ntmps140
   go_wp2
   go_ret
   exact ⟨by rw [E.out]; rfl, rfl⟩
 · have E : Hid (decide (ePl c) = false) := decide_eq_false (by unfold ePl; omega)
   have k0 : ¬ (97 : Int) ≤ (c : Int) := by omega
   have k1 : ¬ (65 : Int) ≤ (c : Int) := by omega
   have k2 : (48 : Int) ≤ (c : Int) := by omega
   have k3 : ¬ (c : Int) ≤ 57 := by omega
   have k4 : ((c : Int) == 45) = false := by simp; omega
   have k5 : ((c : Int) == 95) = false := by simp; omega
   have k6 : ((c : Int) == 46) = false := by simp; omega
   have k7 : ((c : Int) == 47) = false := by simp; omega
   go_enter Tryz.func140, Tryz.ntmps140
   go_wp2
   go_ret
   exact ⟨by rw [E.out]; rfl, rfl⟩
 · have E : Hid (decide (ePl c) = true) := decide_eq_true (by unfold ePl; omega)
   have k0 : ¬ (97 : Int) ≤ (c : Int) := by omega
   have k1 : (65 : Int) ≤ (c : Int) := by omega
   have k2 : (c : Int) ≤ 90 := by omega
   have k3 : (48 : Int) ≤ (c : Int) := by omega
   have k4 : ¬ (c : Int) ≤ 57 := by omega
   have k5 : ((c : Int) == 45) = false := by simp; omega
   have k6 : ((c : Int) == 95) = false := by simp; omega
   have k7 : ((c : Int) == 46) = false := by simp; omega
   have k8 : ((c : Int) == 47) = false := by simp; omega
   go_enter Tryz.func140, Tryz.ntmps140
   go_wp2
   go_ret
   exact ⟨by rw [E.out]; rfl, rfl⟩
 · have E : Hid (decide (ePl c) = false) := decide_eq_false (by unfold ePl; omega)
   have k0 : ¬ (97 : Int) ≤ (c : Int) := by omega
   have k1 : (65 : Int) ≤ (c : Int) := by omega
   have k2 : ¬ (c : Int) ≤ 90 := by omega
   have k3 : (48 : Int) ≤ (c : Int) := by omega
   have k4 : ¬ (c : Int) ≤ 57 := by omega
   have k5 : ((c : Int) == 45) = false := by simp; omega
   have k6 : ((c : Int) == 95) = false := by simp; omega
   have k7 : ((c : Int) == 46) = false := by simp; omega
   have k8 : ((c : Int) == 47) = false := by simp; omega
   go_enter Tryz.func140, Tryz.ntmps140
   go_wp2
   go_ret
   exact ⟨by rw [E.out]; rfl, rfl⟩
 · have E : Hid (decide (ePl 95) = true) := decide_eq_true (by unfold ePl; omega)
   go_enter Tryz.func140, Tryz.ntmps140
   go_wp2
   go_ret
   exact ⟨by rw [E.out]; rfl, rfl⟩
 · have E : Hid (decide (ePl 96) = false) := decide_eq_false (by unfold ePl; omega)
   go_enter Tryz.func140, Tryz.ntmps140
   go_wp2
   go_ret
   exact ⟨by rw [E.out]; rfl, rfl⟩
 · have E : Hid (decide (ePl c) = true) := decide_eq_true (by unfold ePl; omega)
   have k0 : (97 : Int) ≤ (c : Int) := by omega
   have k1 : (c : Int) ≤ 122 := by omega
   have k2 : (65 : Int) ≤ (c : Int) := by omega
   have k3 : ¬ (c : Int) ≤ 90 := by omega
   have k4 : (48 : Int) ≤ (c : Int) := by omega
   have k5 : ¬ (c : Int) ≤ 57 := by omega
   have k6 : ((c : Int) == 45) = false := by simp; omega
   have k7 : ((c : Int) == 95) = false := by simp; omega
   have k8 : ((c : Int) == 46) = false := by simp; omega
   have k9 : ((c : Int) == 47) = false := by simp; omega
   go_enter Tryz.func140, Tryz.ntmps140
   go_wp2
   go_ret
   exact ⟨by rw [E.out]; rfl, rfl⟩
 · have E : Hid (decide (ePl c) = false) := decide_eq_false (by unfold ePl; omega)
   have k0 : (97 : Int) ≤ (c : Int) := by omega
   have k1 : ¬ (c : Int) ≤ 122 := by omega
   have k2 : (65 : Int) ≤ (c : Int) := by omega
   have k3 : ¬ (c : Int) ≤ 90 := by omega
   have k4 : (48 : Int) ≤ (c : Int) := by omega
   have k5 : ¬ (c : Int) ≤ 57 := by omega
   have k6 : ((c : Int) == 45) = false := by simp; omega
   have k7 : ((c : Int) == 95) = false := by simp; omega
   have k8 : ((c : Int) == 46) = false := by simp; omega
   have k9 : ((c : Int) == 47) = false := by simp; omega
   go_enter Tryz.func140, Tryz.ntmps140
   go_wp2
   go_ret
   exact ⟨by rw [E.out]; rfl, rfl⟩
theorem Tryz.infoB : (Tryz.prog.info? 5).map (fun i => (i.zero, i.size, i.bytes)) = some (some (.int .u8 0), 1, 1) := by kernel_rfl
set_option maxRecDepth 20000 in
theorem ix_upp (n : Nat) (h : n < 16) (x : Int) (hx : x = (n : Int)) (w : World) : (Instr.index 9 (.string { data := #[48, 49, 50, 51, 52, 53, 54, 55, 56, 57, 65, 66, 67, 68, 69, 70] }) (.int .u8 x)).run Tryz.prog w = .ok (.int .u8 ((eHx n).toNat : Int)) w := by
 subst hx
 rcases (by omega : n = 0 ∨ n = 1 ∨ n = 2 ∨ n = 3 ∨ n = 4 ∨ n = 5 ∨ n = 6 ∨ n = 7 ∨ n = 8 ∨ n = 9 ∨ n = 10 ∨ n = 11 ∨ n = 12 ∨ n = 13 ∨ n = 14 ∨ n = 15) with rfl | rfl | rfl | rfl | rfl | rfl | rfl | rfl | rfl | rfl | rfl | rfl | rfl | rfl | rfl | rfl <;> rfl
theorem take_one (s : ByteArray) (k : Nat) (h : k < s.size) : s.data.toList.take (k + 1) = s.data.toList.take k ++ [s[k]] := by
 rw [List.take_succ_eq_append_getElem (by simpa using h)]; rfl
set_option maxRecDepth 20000 in
set_option maxHeartbeats 4000000 in
theorem sEsc (s : ByteArray) (hs1 : s.size ≤ 1048576) (w : World) :
 Calls Tryz.prog 117 #[.string s] w fun e w' => e = .returned (.string ⟨(escV s).toArray⟩) ∧ Below w.heap.size w w' := by
 by_cases hs : s.size ≤ 100000
 · have EV : Hid (escV s = esc s.data.toList) := by show _ = _; unfold escV; rw [if_pos hs]
   have d1 : decide (100000 < (s.size : Int)) = false := by simp; omega
   go_enter Tryz.func117, Tryz.ntmps117
   go_wp2
   go_loopw [3, 4] (fun v i wr => ∃ k : Nat, k ≤ s.size ∧ i = .int .i64 k ∧ OwnNums wr w.heap.size 5 .u8 v (ni (esc (s.data.toList.take k))) ∧ Below w.heap.size w wr) (fun _ i _ => s.size - (intOf i).toNat)
   case atStart => exact ⟨0, Nat.zero_le _, rfl, OwnNums.empty w 5 .u8, (Below.refl _ _).alloc (Nat.le_refl _) _⟩
   case round =>
    obtain ⟨k, hk, rfl, hown, hbel⟩ := hrel
    by_cases hlt : k < s.size
    · have i0 : (0 : Int) ≤ (k : Int) := by omega
      have i1 : (k : Int) < (s.size : Int) := by omega
      have c0 : 0 ≤ (s[k].toNat : Int) := by omega
      have c1 : s[k].toNat < 256 := s[k].toNat_lt
      have hl : (ni (esc (s.data.toList.take k))).length ≤ 300000 := by
       have h1 := (esc_len (s.data.toList.take k)).2
       have h2 : (s.data.toList.take k).length ≤ k := List.length_take_le _ _
       rw [ni_len]
       omega
      have HS : Hid (ni (esc (s.data.toList.take (k + 1))) = ni (esc (s.data.toList.take k)) ++ ni (e1 s[k])) := by
       show _ = _
       rw [take_one s k hlt, esc_snoc, ni_app]
      have E1 : Hid (ni (e1 s[k]) = if ePl s[k].toNat then [(s[k].toNat : Int)] else [37, ((eHx (s[k].toNat / 16)).toNat : Int), ((eHx (s[k].toNat % 16)).toNat : Int)]) := by
       show _ = _
       unfold e1
       split <;> rfl
      go_wp2_with fail
      refine (sPlain _ c1 _).mono ?_
      rintro e w1 ⟨rfl, hw1⟩
      obtain rfl := hw1.symm
      by_cases hp : ePl s[k].toNat
      · have b0 : decide (ePl s[k].toNat) = true := decide_eq_true hp
        rw [if_pos hp] at E1
        go_wp2_with (first | (at_builtin; refine append_num w wr rfl (.tmp 21) (.tmp 23) 22 rfl 5 .u8 1 Tryz.underlying22 Tryz.infoB (by decide) _ _ (s[k].toNat : Int) rfl hown hbel rfl (by omega) ?_) | go_in)
        intro v' w2 hown' hbel' _
        rw [← E1.out, ← HS.out] at hown'
        clear hown hbel
        go_wp2
        go_roundw
        case rel => exact ⟨k + 1, by omega, by go_num, hown', hbel'⟩
        case measure => simp [intOf]; omega
      · have b0 : decide (ePl s[k].toNat) = false := decide_eq_false hp
        rw [if_neg hp] at E1
        have e1 := fun wx => ix_upp (s[k].toNat / 16) (by omega) (IntKind.u8.wrap (↑s[k].toNat / 16)) (by rw [IntKind.wrap_u8']; omega) wx
        have e2 := fun wx => ix_upp (s[k].toNat % 16) (by omega) ((↑s[k].toNat : Int).tmod 16) (by rw [Int.tmod_eq_emod_of_nonneg c0]; omega) wx
        generalize eHx (s[k].toNat / 16) = X at e1 E1
        generalize eHx (s[k].toNat % 16) = Y at e2 E1
        go_wp2_with fail
        go_region_held3 (fun _ => True) (trivial) ((refine step_append_nums w _ (by rfl) _ _ 22 (by rfl) 5 .u8 1 Tryz.underlying22 Tryz.infoB (by decide) _ (ni (esc (s.data.toList.take k))) [37, (X.toNat : Int), (Y.toNat : Int)] (by rfl) ((hown.alloc _).drew) ((hbel.alloc hbel.size _).drew) wr.heap.size 3 (by exact heap_alloc_new wr _) (by rfl) rfl (by decide) (by omega) ?_; intro g cap w1 hown1 hbel1))
        all_goals go_wp2
        all_goals
         go_roundw
         case rel => exact ⟨k + 1, by omega, by go_num, by rw [HS.out, E1.out]; exact hown1, hbel1⟩
         case measure => simp [intOf]; omega
    · have hcv := conv_owned wr 22 5 9 Tryz.underlying22 Tryz.underlying5 Tryz.underlying9 hown
      have HE : Hid (s.data.toList.take k = s.data.toList) := List.take_of_length_le (by simp; omega)
      go_wp2
      go_ret
      exact ⟨by rw [HE.out, ni_str, EV.out]; rfl, hbel⟩
 · have EV : Hid (escV s = []) := by show _ = _; unfold escV; rw [if_neg hs]
   have d1 : decide (100000 < (s.size : Int)) = true := by simp; omega
   go_enter Tryz.func117, Tryz.ntmps117
   go_wp2
   go_ret
   exact ⟨by rw [EV.out]; rfl, Below.refl _ _⟩
end Go.Proofs.YtkcjigelenofhaaGreatDoor
namespace Go.Proofs.YtkcjigelenofhaaGreatDoor
open Go.RowKit
theorem ba_app (a b : ByteArray) : (a ++ b).data.toList = a.data.toList ++ b.data.toList := by
 rw [ByteArray.data_append]; simp
theorem baLen (b : ByteArray) : b.data.toList.length = b.size := by simp
theorem sizeApp (a b : ByteArray) : (a ++ b).size = a.size + b.size := ByteArray.size_append ..
theorem convGw (w : World) (b : Nat) (d : Int) (h : w.cell? ⟨b, 0, none⟩ = some (.int .u8 d)) : (convert 22 9 (.slice (some ⟨b, 0, none⟩) 1 1)).run Tryz.prog w = .ok (.string (strOfNums [d])) w :=
 run_convert_bytes_arg (P := Tryz.prog) _ 22 5 Tryz.underlying22 Tryz.underlying5 b 0 1 1 [d] rfl (fun i hi => by
  have e : i = 0 := by omega
  subst e
  exact h) 9 Tryz.underlying9
theorem str1w (d : Int) : (strOfNums [d]).size = 1 := by rw [strOfNums_size]; rfl
theorem wrp (r : Nat) (h : r < 10) : IntKind.u8.wrap (IntKind.i64.wrap (48 + (r : Int))) = 48 + (r : Int) := by
 rw [IntKind.wrap_i64]
 simp [IntKind.wrap, IntKind.bits, IntKind.signed]
 omega
theorem str1d (r : Nat) : (strOfNums [48 + (r : Int)]).data.toList = [UInt8.ofNat (48 + r)] := by
 rw [strOfNums_data, List.map_cons, List.map_nil, show (48 + (r : Int)).toNat = 48 + r by omega]
set_option maxRecDepth 20000 in
set_option maxHeartbeats 1000000 in
theorem sDec1 (n : Nat) (hn : n < 10) (w : World) :
 Calls Tryz.prog 50 #[.int .i64 (n : Int)] w fun e w' => (∃ t : ByteArray, e = .returned (.string t) ∧ t.data.toList = Lib.decDigits n ∧ t.size ≤ 19) ∧ Below w.heap.size w w' := by
 have d0 : ¬ (n : Int) < 0 := by omega
 have d1 : (n : Int) < 10 := by omega
 have B1 : Hid (∀ o, Below w.heap.size w (w.alloc o)) := fun o => (Below.refl _ w).alloc (Nat.le_refl _) _
 have cv := fun d => convGw (w.alloc (.cells #[.int .u8 d] 5)) w.heap.size d ((RowAt.new w _ _).cell 0)
 go_enter Tryz.func50, Tryz.ntmps50
 go_wp2
 go_ret
 exact ⟨⟨_, rfl, by rw [str1d, Lib.decDigits_one hn], by rw [str1w]; omega⟩, B1.out _⟩
theorem sDecz (z : Int) (n : Nat) (hz : z = (n : Int)) {w : World} {R : Ending → World → Prop} (h : Calls Tryz.prog 50 #[.int .i64 (n : Int)] w R) : Calls Tryz.prog 50 #[.int .i64 z] w R := by subst hz; exact h
set_option maxRecDepth 20000 in
set_option maxHeartbeats 1000000 in
theorem sDecS (d : Nat) : ∀ (n : Nat), n < 10 ^ (d + 1) → d ≤ 17 → ∀ w : World,
 Calls Tryz.prog 50 #[.int .i64 (n : Int)] w fun e w' => (∃ t : ByteArray, e = .returned (.string t) ∧ t.data.toList = Lib.decDigits n ∧ t.size ≤ d + 1) ∧ Below w.heap.size w w' := by
 induction d with
 | zero =>
  intro n hn _ w
  have h10 : n < 10 := by simpa using hn
  refine (sDec1 n h10 w).mono ?_
  rintro e w' ⟨⟨t, rfl, h1, _⟩, h2⟩
  refine ⟨⟨t, rfl, h1, ?_⟩, h2⟩
  rw [← baLen, h1, Lib.decDigits_one h10]; simp
 | succ d ih =>
  intro n hn hd w
  by_cases h10 : n < 10
  · refine (sDec1 n h10 w).mono ?_
    rintro e w' ⟨⟨t, rfl, h1, _⟩, h2⟩
    refine ⟨⟨t, rfl, h1, ?_⟩, h2⟩
    rw [← baLen, h1, Lib.decDigits_one h10]; simp
  have hb : n < 10 ^ 19 := Nat.lt_of_lt_of_le hn (Nat.pow_le_pow_right (by omega) (by omega))
  have d0 : ¬ (n : Int) < 0 := by omega
  have d1 : ¬ (n : Int) < 10 := by omega
  have DD : Hid (Lib.decDigits n = Lib.decDigits (n / 10) ++ [UInt8.ofNat (48 + n % 10)]) := by show _ = _; rw [Lib.decDigits, dif_neg h10]
  have hq0 : n / 10 < 10 ^ (d + 1) := by
   rw [Nat.pow_succ] at hn
   omega
  have K := fun w => hid (ih (n / 10) hq0 (by omega) w)
  obtain ⟨q, hq⟩ : ∃ q, q = n / 10 := ⟨_, rfl⟩
  obtain ⟨r, hr⟩ : ∃ r, r = n % 10 := ⟨_, rfl⟩
  have hr10 : r < 10 := by omega
  have e1 : (n : Int).tdiv 10 = (q : Int) := by rw [Int.tdiv_eq_ediv_of_nonneg (by omega)]; omega
  have e1' : (n : Int) / 10 = (q : Int) := by omega
  have e2 : (n : Int).tmod 10 = (r : Int) := by rw [Int.tmod_eq_emod_of_nonneg (by omega)]; omega
  have e2' : (n : Int) % 10 = (r : Int) := by omega
  rw [← hq] at K DD
  rw [← hr] at DD
  have hqb : q < 1000000000000000000 := by omega
  clear hq hr ih hn hq0
  have B1 : Hid (∀ o, Below w.heap.size w (w.alloc o)) := fun o => (Below.refl _ w).alloc (Nat.le_refl _) _
  go_enter Tryz.func50, Tryz.ntmps50
  go_wp2_with fail
  have cvA : ∀ (W : World) d, (convert 22 9 (.slice (some ⟨W.heap.size, 0, none⟩) 1 1)).run Tryz.prog (W.alloc (.cells #[.int .u8 d] 5)) = .ok (.string (strOfNums [d])) (W.alloc (.cells #[.int .u8 d] 5)) := fun W d => convGw _ W.heap.size d ((RowAt.new W _ _).cell 0)
  have cvB : ∀ (W : World) d, (convert 22 9 (.slice (some ⟨W.heap.size, 0, none⟩) 1 1)).run Tryz.prog (W.alloc (.cells #[.int .u8 d] 5)).drew = .ok (.string (strOfNums [d])) (W.alloc (.cells #[.int .u8 d] 5)).drew := fun W d => convGw _ W.heap.size d ((RowAt.new W _ _).cell 0)
  go_region_with ((go_at_call 50; refine (sDecz _ q (by first | rfl | exact e1 | (rw [e1]; rfl) | (rw [e1, IntKind.wrap_i64]; omega) | (rw [IntKind.wrap_i64]; omega)) (K _).out).mono ?_; rintro e w2 ⟨⟨t, rfl, hl, ht⟩, hb2⟩; have z1 : ∀ d, ¬ 9223372036854775807 < t.size + (strOfNums [d]).size := (fun d => by rw [str1w]; omega); (first | have cvC := convGw w2 w.heap.size _ ((hb2.cell (p := ⟨w.heap.size, 0, none⟩) (by simp)).trans ((RowAt.new w 5 #[_]).cell 0)) | skip)))
  all_goals go_wp2
  all_goals go_ret
  all_goals refine ⟨⟨_, rfl, by rw [ba_app, hl, wrp r hr10, str1d, DD.out], by rw [sizeApp, str1w]; omega⟩, ?_⟩
  all_goals first
   | exact ((Below.refl _ w).drew.trans hb2).alloc (((Below.refl _ w).drew.trans hb2).size) _
   | exact ((B1.out _).drew.trans (hb2.mono (B1.out _).drew.size))
   | exact ((B1.out _).trans (hb2.mono (B1.out _).size))
theorem sDec (n : Nat) (hn : n ≤ 4102444800) (w : World) :
 Calls Tryz.prog 50 #[.int .i64 (n : Int)] w fun e w' => (∃ t : ByteArray, e = .returned (.string t) ∧ t.data.toList = Lib.decDigits n ∧ t.size ≤ 10) ∧ Below w.heap.size w w' :=
 sDecS 9 n (by omega) (by omega) w
end Go.Proofs.YtkcjigelenofhaaGreatDoor
namespace Go.Proofs.YtkcjigelenofhaaGreatDoor
open Go.RowKit
def ofL (l : List UInt8) : ByteArray := ⟨l.toArray⟩
theorem ofL_l (l : List UInt8) : (ofL l).data.toList = l := by simp [ofL]
theorem ofL_size (l : List UInt8) : (ofL l).size = l.length := by rw [← baLen, ofL_l]
theorem ba_extL {a b : ByteArray} (h : a.data.toList = b.data.toList) : a = b := by
 cases a
 cases b
 congr 1
 exact Array.toList_inj.1 h
theorem ofL_of {b : ByteArray} {l : List UInt8} (h : b.data.toList = l) : b = ofL l := ba_extL (by rw [h, ofL_l])
theorem ofL_inj {a b : List UInt8} (h : ofL a = ofL b) : a = b := by rw [← ofL_l a, h, ofL_l]
def Jn (W w : World) (b : Nat) (t : TypeId) (cs : Array Value) : Prop := RowAt w b t cs ∧ Below W.heap.size W w
theorem Jn.drew {W w : World} {b : Nat} {t : TypeId} {cs : Array Value} (J : Hid (Jn W w b t cs)) : Hid (Jn W w.drew b t cs) := ⟨J.out.1.drew, J.out.2.drew⟩
theorem Jn.drewN {W w : World} {b : Nat} {t : TypeId} {cs : Array Value} (J : Hid (Jn W w b t cs)) (n : Nat) : Hid (Jn W (w.drewN n) b t cs) := ⟨J.out.1.drewN n, below_drewN J.out.2 n⟩
theorem Jn.next {W X w2 : World} {b : Nat} {t : TypeId} {cs : Array Value} (hb : Below X.heap.size X w2) (J : Hid (Jn W X b t cs)) : Hid (Jn W w2 b t cs) :=
 ⟨J.out.1.below hb J.out.1.lt, J.out.2.trans (hb.mono J.out.2.size)⟩
theorem Jn.box (w : World) (t : TypeId) (cs : Array Value) : Hid (Jn w (w.alloc (.cells cs t)) w.heap.size t cs) := ⟨RowAt.new _ _ _, (Below.refl _ _).alloc (Nat.le_refl _) _⟩
end Go.Proofs.YtkcjigelenofhaaGreatDoor
namespace Go.Proofs.YtkcjigelenofhaaGreatDoor
open Go.RowKit
def prL (p : Hp) : List UInt8 := escV p.nm ++ [61] ++ escV p.vl
theorem escV_len (s : ByteArray) : (escV s).length ≤ 3 * s.size := by
 unfold escV
 split
 · have := (esc_len s.data.toList).2
   rw [baLen] at this
   exact this
 · exact Nat.zero_le _
theorem prL_len {p : Hp} (h : qyP p) : (prL p).length ≤ 3301 := by
 have h1 := escV_len p.nm
 have h2 := escV_len p.vl
 have := h.2.1
 have := h.2.2
 unfold prL
 simp only [List.length_append, List.length_cons, List.length_nil]
 omega
theorem sEscT (s : ByteArray) (hs : s.size ≤ 1048576) (w : World) :
 Calls Tryz.prog 117 #[.string s] w fun e w' => e = .returned (.string (ofL (escV s))) ∧ Below w.heap.size w w' := sEsc s hs w
set_option maxRecDepth 20000 in
set_option maxHeartbeats 2000000 in
theorem sPair (p0 p1 : ByteArray) (h0 : p0.size ≤ 1000) (h1 : p1.size ≤ 1000) (w : World) :
 Calls Tryz.prog 118 #[.agg #[.string p0, .string p1]] w fun e w' => e = .returned (.string (ofL (prL ⟨p0, p1⟩))) ∧ Below w.heap.size w w' := by
 have J := Jn.box w 66 #[.string p0, .string p1]
 obtain ⟨W0, hW0⟩ : ∃ W, W = w.alloc (.cells #[.string p0, .string p1] 66) := ⟨_, rfl⟩
 rw [← hW0] at J
 have K0 := fun wx => hid (sEscT p0 (by omega) wx)
 have K1 := fun wx => hid (sEscT p1 (by omega) wx)
 have l0 : (ofL (escV p0)).size ≤ 3000 := by rw [ofL_size]; have := escV_len p0; omega
 have l1 : (ofL (escV p1)).size ≤ 3000 := by rw [ofL_size]; have := escV_len p1; omega
 have EE : Hid (ofL (escV p0) ++ ⟨#[61]⟩ ++ ofL (escV p1) = ofL (prL ⟨p0, p1⟩)) := ofL_of (by rw [ba_app, ba_app, ofL_l, ofL_l]; rfl)
 obtain ⟨E0, hE0⟩ : ∃ E, E = ofL (escV p0) := ⟨_, rfl⟩
 obtain ⟨E1, hE1⟩ : ∃ E, E = ofL (escV p1) := ⟨_, rfl⟩
 rw [← hE0] at K0 l0 EE
 rw [← hE1] at K1 l1 EE
 clear hE0 hE1
 have z0 : ¬ 9223372036854775807 < E0.size + (⟨#[61]⟩ : ByteArray).size := by show ¬ _ < E0.size + 1; omega
 have z1 : ¬ 9223372036854775807 < (E0 ++ ⟨#[61]⟩).size + E1.size := by rw [sizeApp]; show ¬ _ < E0.size + 1 + _; omega
 have z2 : ¬ 9223372036854775807 < E0.size + 1 := by omega
 have z3 : ¬ 9223372036854775807 < E0.size + 1 + E1.size := by omega
 have y0 : W0.cell? ⟨w.heap.size, 0, none⟩ = some (.string p0) := J.out.1.cell 0
 have y1 : W0.cell? ⟨w.heap.size, 1, none⟩ = some (.string p1) := J.out.1.cell 1
 go_enter Tryz.func118, Tryz.ntmps118
 go_upto_region 1 with fail
 rw [← hW0]
 clear hW0
 go_region_held3 (fun wx => wx.cell? ⟨w.heap.size, 0, none⟩ = some (.string p0) ∧ wx.cell? ⟨w.heap.size, 1, none⟩ = some (.string p1))
  (first | with_reducible exact ⟨y0, y1⟩ | exact ⟨J.out.1.cell 0, J.out.1.cell 1⟩)
  (first
   | (go_at_call_of 117 (Value.string p0); refine (K0 _).out.mono ?_; rintro e w2 ⟨rfl, hb2⟩; (first | replace J := Jn.next hb2 J | replace J := Jn.next hb2 (Jn.drew J)); replace y0 := J.out.1.cell 0; replace y1 := J.out.1.cell 1; clear hb2)
   | (go_at_call_of 117 (Value.string p1); refine (K1 _).out.mono ?_; rintro e w2 ⟨rfl, hb2⟩; (first | replace J := Jn.next hb2 J | replace J := Jn.next hb2 (Jn.drew J)); replace y0 := J.out.1.cell 0; replace y1 := J.out.1.cell 1; clear hb2))
 all_goals go_wp2
 all_goals go_ret
 all_goals exact ⟨by rw [EE.out]; rfl, J.out.2⟩
theorem sDecI (z : Int) (n : Nat) (hz : z = (n : Int)) (hn : n ≤ 4102444800) (w : World) :
 Calls Tryz.prog 50 #[.int .i64 z] w fun e w' => e = .returned (.string (ofL (Lib.decDigits n))) ∧ Below w.heap.size w w' := by
 subst hz
 refine (sDec n hn w).mono ?_
 rintro e w' ⟨⟨t, rfl, h1, _⟩, hb⟩
 exact ⟨by rw [ofL_of h1], hb⟩
theorem decD_len : ∀ d n, n < 10 ^ (d + 1) → (Lib.decDigits n).length ≤ d + 1
 | 0, n, h => by rw [Lib.decDigits_one (by omega)]; simp
 | d + 1, n, h => by
  by_cases h1 : n < 10
  · rw [Lib.decDigits_one h1]; simp
  · rw [Lib.decDigits, dif_neg h1, List.length_append]
    have := decD_len d (n / 10) (by rw [Nat.pow_succ] at h; omega)
    simp
    omega
theorem dec_len (n : Nat) (hn : n ≤ 4102444800) : (ofL (Lib.decDigits n)).size ≤ 10 := by
 rw [ofL_size]
 exact decD_len 9 n (by omega)
end Go.Proofs.YtkcjigelenofhaaGreatDoor
