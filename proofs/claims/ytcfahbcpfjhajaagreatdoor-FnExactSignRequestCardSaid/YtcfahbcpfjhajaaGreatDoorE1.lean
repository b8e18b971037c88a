import Derived.Test.YtcfahbcpfjhajaaGreatDoorBase
import Derived.Test.YtcfahbcpfjhajaaGreatDoorK1
import Derived.Test.YtcfahbcpfjhajaaGreatDoorProg
import Derived.Deep.RegionHeld3
import Derived.Deep.DrawnRows
import Derived.Deep.RegionLaw
import Derived.Deep.CutRange
namespace Go.Proofs.YtcfahbcpfjhajaaGreatDoor
open Go.RowKit
/-! Texts escaped and back. -/
def ni (l : List UInt8) : List Int := l.map fun b => (b.toNat : Int)
theorem ni_app (a b : List UInt8) : ni (a ++ b) = ni a ++ ni b := by simp [ni]
theorem ni_len (a : List UInt8) : (ni a).length = a.length := by simp [ni]
theorem ni_str (l : List UInt8) : strOfNums (ni l) = ⟨l.toArray⟩ := by
  unfold strOfNums ni
  congr 1
  rw [List.map_map]
  congr 1
  apply List.ext_getElem
  · simp
  · intro i h1 h2
    simp
def ePl (c : Nat) : Prop := (97 ≤ c ∧ c ≤ 122) ∨ (65 ≤ c ∧ c ≤ 90) ∨ (48 ≤ c ∧ c ≤ 57) ∨ c = 45 ∨ c = 95 ∨ c = 46 ∨ c = 47
instance (c : Nat) : Decidable (ePl c) := by unfold ePl; infer_instance
def eHx (n : Nat) : UInt8 := if n < 10 then UInt8.ofNat (48 + n) else UInt8.ofNat (55 + n)
def e1 (c : UInt8) : List UInt8 := if ePl c.toNat then [c] else [37, eHx (c.toNat / 16), eHx (c.toNat % 16)]
def esc (l : List UInt8) : List UInt8 := l.flatMap e1
theorem esc_snoc (l : List UInt8) (c : UInt8) : esc (l ++ [c]) = esc l ++ e1 c := by simp [esc]
theorem esc_app (a b : List UInt8) : esc (a ++ b) = esc a ++ esc b := by simp [esc]
theorem e1_len (c : UInt8) : 1 ≤ (e1 c).length ∧ (e1 c).length ≤ 3 := by unfold e1; split <;> simp
theorem esc_len (l : List UInt8) : l.length ≤ (esc l).length ∧ (esc l).length ≤ 3 * l.length := by
  induction l with
  | nil => simp [esc]
  | cons c l ih =>
    have h := e1_len c
    have e : esc (c :: l) = e1 c ++ esc l := by simp [esc]
    rw [e, List.length_append, List.length_cons]
    omega
/-- a text escaped: what the functions answer -/
def escV (s : ByteArray) : List UInt8 := if s.size ≤ 100000 then esc s.data.toList else []
end Go.Proofs.YtcfahbcpfjhajaaGreatDoor
namespace Go.Proofs.YtcfahbcpfjhajaaGreatDoor
open Go.RowKit
/-! The specification's Escape. -/
set_option maxRecDepth 20000 in
set_option maxHeartbeats 4000000 in
theorem sPlain (c : Nat) (hc : c < 256) (w : World) :
    Calls Tryz.prog 140 #[.int .u8 (c : Int)] w fun e w' => e = .returned (.bool (decide (ePl c))) ∧ w' = w := by
  rcases (by omega : (0 ≤ c ∧ c ≤ 44) ∨ c = 45 ∨ c = 46 ∨ c = 47 ∨ (48 ≤ c ∧ c ≤ 57) ∨ (58 ≤ c ∧ c ≤ 64) ∨ (65 ≤ c ∧ c ≤ 90) ∨ (91 ≤ c ∧ c ≤ 94) ∨ c = 95 ∨ c = 96 ∨ (97 ≤ c ∧ c ≤ 122) ∨ (123 ≤ c ∧ c ≤ 255)) with h | rfl | rfl | rfl | h | h | h | h | rfl | rfl | h | h
  · have E : Hid (decide (ePl c) = false) := decide_eq_false (by unfold ePl; omega)
    have k0 : ¬ (97 : Int) ≤ (c : Int) := by omega
    have k1 : ¬ (65 : Int) ≤ (c : Int) := by omega
    have k2 : ¬ (48 : Int) ≤ (c : Int) := by omega
    have k3 : ((c : Int) == 45) = false := by simp; omega
    have k4 : ((c : Int) == 95) = false := by simp; omega
    have k5 : ((c : Int) == 46) = false := by simp; omega
    have k6 : ((c : Int) == 47) = false := by simp; omega
    go_enter Tryz.func140, Tryz.ntmps140
    go_wp2
    go_ret
    exact ⟨by rw [E.out]; rfl, rfl⟩
  · have E : Hid (decide (ePl 45) = true) := decide_eq_true (by unfold ePl; omega)
    go_enter Tryz.func140, Tryz.ntmps140
    go_wp2
    go_ret
    exact ⟨by rw [E.out]; rfl, rfl⟩
  · have E : Hid (decide (ePl 46) = true) := decide_eq_true (by unfold ePl; omega)
    go_enter Tryz.func140, Tryz.ntmps140
    go_wp2
    go_ret
    exact ⟨by rw [E.out]; rfl, rfl⟩
  · have E : Hid (decide (ePl 47) = true) := decide_eq_true (by unfold ePl; omega)
    go_enter Tryz.func140, Tryz.ntmps140
    go_wp2
    go_ret
    exact ⟨by rw [E.out]; rfl, rfl⟩
  · have E : Hid (decide (ePl c) = true) := decide_eq_true (by unfold ePl; omega)
    have k0 : ¬ (97 : Int) ≤ (c : Int) := by omega
    have k1 : ¬ (65 : Int) ≤ (c : Int) := by omega
    have k2 : (48 : Int) ≤ (c : Int) := by omega
    have k3 : (c : Int) ≤ 57 := by omega
    have k4 : ((c : Int) == 45) = false := by simp; omega
    have k5 : ((c : Int) == 95) = false := by simp; omega
    have k6 : ((c : Int) == 46) = false := by simp; omega
    have k7 : ((c : Int) == 47) = false := by simp; omega
    go_enter Tryz.func140, Tryz.ntmps140
    go_wp2
    go_ret
    exact ⟨by rw [E.out]; rfl, rfl⟩
  · have E : Hid (decide (ePl c) = false) := decide_eq_false (by unfold ePl; omega)
    have k0 : ¬ (97 : Int) ≤ (c : Int) := by omega
    have k1 : ¬ (65 : Int) ≤ (c : Int) := by omega
    have k2 : (48 : Int) ≤ (c : Int) := by omega
    have k3 : ¬ (c : Int) ≤ 57 := by omega
    have k4 : ((c : Int) == 45) = false := by simp; omega
    have k5 : ((c : Int) == 95) = false := by simp; omega
    have k6 : ((c : Int) == 46) = false := by simp; omega
    have k7 : ((c : Int) == 47) = false := by simp; omega
    go_enter Tryz.func140, Tryz.ntmps140
    go_wp2
    go_ret
    exact ⟨by rw [E.out]; rfl, rfl⟩
  · have E : Hid (decide (ePl c) = true) := decide_eq_true (by unfold ePl; omega)
    have k0 : ¬ (97 : Int) ≤ (c : Int) := by omega
    have k1 : (65 : Int) ≤ (c : Int) := by omega
    have k2 : (c : Int) ≤ 90 := by omega
    have k3 : (48 : Int) ≤ (c : Int) := by omega
    have k4 : ¬ (c : Int) ≤ 57 := by omega
    have k5 : ((c : Int) == 45) = false := by simp; omega
    have k6 : ((c : Int) == 95) = false := by simp; omega
    have k7 : ((c : Int) == 46) = false := by simp; omega
    have k8 : ((c : Int) == 47) = false := by simp; omega
    go_enter Tryz.func140, Tryz.ntmps140
    go_wp2
    go_ret
    exact ⟨by rw [E.out]; rfl, rfl⟩
  · have E : Hid (decide (ePl c) = false) := decide_eq_false (by unfold ePl; omega)
    have k0 : ¬ (97 : Int) ≤ (c : Int) := by omega
    have k1 : (65 : Int) ≤ (c : Int) := by omega
    have k2 : ¬ (c : Int) ≤ 90 := by omega
    have k3 : (48 : Int) ≤ (c : Int) := by omega
    have k4 : ¬ (c : Int) ≤ 57 := by omega
    have k5 : ((c : Int) == 45) = false := by simp; omega
    have k6 : ((c : Int) == 95) = false := by simp; omega
    have k7 : ((c : Int) == 46) = false := by simp; omega
    have k8 : ((c : Int) == 47) = false := by simp; omega
    go_enter Tryz.func140, Tryz.ntmps140
    go_wp2
    go_ret
    exact ⟨by rw [E.out]; rfl, rfl⟩
  · have E : Hid (decide (ePl 95) = true) := decide_eq_true (by unfold ePl; omega)
    go_enter Tryz.func140, Tryz.ntmps140
    go_wp2
    go_ret
    exact ⟨by rw [E.out]; rfl, rfl⟩
  · have E : Hid (decide (ePl 96) = false) := decide_eq_false (by unfold ePl; omega)
    go_enter Tryz.func140, Tryz.ntmps140
    go_wp2
    go_ret
    exact ⟨by rw [E.out]; rfl, rfl⟩
  · have E : Hid (decide (ePl c) = true) := decide_eq_true (by unfold ePl; omega)
    have k0 : (97 : Int) ≤ (c : Int) := by omega
    have k1 : (c : Int) ≤ 122 := by omega
    have k2 : (65 : Int) ≤ (c : Int) := by omega
    have k3 : ¬ (c : Int) ≤ 90 := by omega
    have k4 : (48 : Int) ≤ (c : Int) := by omega
    have k5 : ¬ (c : Int) ≤ 57 := by omega
    have k6 : ((c : Int) == 45) = false := by simp; omega
    have k7 : ((c : Int) == 95) = false := by simp; omega
    have k8 : ((c : Int) == 46) = false := by simp; omega
    have k9 : ((c : Int) == 47) = false := by simp; omega
    go_enter Tryz.func140, Tryz.ntmps140
    go_wp2
    go_ret
    exact ⟨by rw [E.out]; rfl, rfl⟩
  · have E : Hid (decide (ePl c) = false) := decide_eq_false (by unfold ePl; omega)
    have k0 : (97 : Int) ≤ (c : Int) := by omega
    have k1 : ¬ (c : Int) ≤ 122 := by omega
    have k2 : (65 : Int) ≤ (c : Int) := by omega
    have k3 : ¬ (c : Int) ≤ 90 := by omega
    have k4 : (48 : Int) ≤ (c : Int) := by omega
    have k5 : ¬ (c : Int) ≤ 57 := by omega
    have k6 : ((c : Int) == 45) = false := by simp; omega
    have k7 : ((c : Int) == 95) = false := by simp; omega
    have k8 : ((c : Int) == 46) = false := by simp; omega
    have k9 : ((c : Int) == 47) = false := by simp; omega
    go_enter Tryz.func140, Tryz.ntmps140
    go_wp2
    go_ret
    exact ⟨by rw [E.out]; rfl, rfl⟩
theorem Tryz.infoB : (Tryz.prog.info? 5).map (fun i => (i.zero, i.size, i.bytes)) = some (some (.int .u8 0), 1, 1) := by kernel_rfl
set_option maxRecDepth 20000 in
theorem ix_upp (n : Nat) (h : n < 16) (x : Int) (hx : x = (n : Int)) (w : World) : (Instr.index 9 (.string { data := #[48, 49, 50, 51, 52, 53, 54, 55, 56, 57, 65, 66, 67, 68, 69, 70] }) (.int .u8 x)).run Tryz.prog w = .ok (.int .u8 ((eHx n).toNat : Int)) w := by
  subst hx
  rcases (by omega : n = 0 ∨ n = 1 ∨ n = 2 ∨ n = 3 ∨ n = 4 ∨ n = 5 ∨ n = 6 ∨ n = 7 ∨ n = 8 ∨ n = 9 ∨ n = 10 ∨ n = 11 ∨ n = 12 ∨ n = 13 ∨ n = 14 ∨ n = 15) with rfl | rfl | rfl | rfl | rfl | rfl | rfl | rfl | rfl | rfl | rfl | rfl | rfl | rfl | rfl | rfl <;> rfl
theorem take_one (s : ByteArray) (k : Nat) (h : k < s.size) : s.data.toList.take (k + 1) = s.data.toList.take k ++ [s[k]] := by
  rw [List.take_succ_eq_append_getElem (by simpa using h)]; rfl
set_option maxRecDepth 20000 in
set_option maxHeartbeats 4000000 in
theorem sEsc (s : ByteArray) (hs1 : s.size ≤ 1048576) (w : World) :
    Calls Tryz.prog 117 #[.string s] w fun e w' => e = .returned (.string ⟨(escV s).toArray⟩) ∧ Below w.heap.size w w' := by
  by_cases hs : s.size ≤ 100000
  · have EV : Hid (escV s = esc s.data.toList) := by show _ = _; unfold escV; rw [if_pos hs]
    have d1 : decide (100000 < (s.size : Int)) = false := by simp; omega
    go_enter Tryz.func117, Tryz.ntmps117
    go_wp2
    go_loopw [3, 4] (fun v i wr => ∃ k : Nat, k ≤ s.size ∧ i = .int .i64 k ∧ OwnNums wr w.heap.size 5 .u8 v (ni (esc (s.data.toList.take k))) ∧ Below w.heap.size w wr) (fun _ i _ => s.size - (intOf i).toNat)
    case atStart => exact ⟨0, Nat.zero_le _, rfl, OwnNums.empty w 5 .u8, (Below.refl _ _).alloc (Nat.le_refl _) _⟩
    case round =>
      obtain ⟨k, hk, rfl, hown, hbel⟩ := hrel
      by_cases hlt : k < s.size
      · have i0 : (0 : Int) ≤ (k : Int) := by omega
        have i1 : (k : Int) < (s.size : Int) := by omega
        have c0 : 0 ≤ (s[k].toNat : Int) := by omega
        have c1 : s[k].toNat < 256 := s[k].toNat_lt
        have hl : (ni (esc (s.data.toList.take k))).length ≤ 300000 := by
          have h1 := (esc_len (s.data.toList.take k)).2
          have h2 : (s.data.toList.take k).length ≤ k := List.length_take_le _ _
          rw [ni_len]
          omega
        have HS : Hid (ni (esc (s.data.toList.take (k + 1))) = ni (esc (s.data.toList.take k)) ++ ni (e1 s[k])) := by
          show _ = _
          rw [take_one s k hlt, esc_snoc, ni_app]
        have E1 : Hid (ni (e1 s[k]) = if ePl s[k].toNat then [(s[k].toNat : Int)] else [37, ((eHx (s[k].toNat / 16)).toNat : Int), ((eHx (s[k].toNat % 16)).toNat : Int)]) := by
          show _ = _
          unfold e1
          split <;> rfl
        go_wp2_with fail
        refine (sPlain _ c1 _).mono ?_
        rintro e w1 ⟨rfl, hw1⟩
        obtain rfl := hw1.symm
        by_cases hp : ePl s[k].toNat
        · have b0 : decide (ePl s[k].toNat) = true := decide_eq_true hp
          rw [if_pos hp] at E1
          go_wp2_with (first | (at_builtin; refine append_num w wr rfl (.tmp 21) (.tmp 23) 22 rfl 5 .u8 1 Tryz.underlying22 Tryz.infoB (by decide) _ _ (s[k].toNat : Int) rfl hown hbel rfl (by omega) ?_) | go_in)
          intro v' w2 hown' hbel' _
          rw [← E1.out, ← HS.out] at hown'
          clear hown hbel
          go_wp2
          go_roundw
          case rel => exact ⟨k + 1, by omega, by go_num, hown', hbel'⟩
          case measure => simp [intOf]; omega
        · have b0 : decide (ePl s[k].toNat) = false := decide_eq_false hp
          rw [if_neg hp] at E1
          have e1 := fun wx => ix_upp (s[k].toNat / 16) (by omega) (IntKind.u8.wrap (↑s[k].toNat / 16)) (by rw [IntKind.wrap_u8']; omega) wx
          have e2 := fun wx => ix_upp (s[k].toNat % 16) (by omega) ((↑s[k].toNat : Int).tmod 16) (by rw [Int.tmod_eq_emod_of_nonneg c0]; omega) wx
          generalize eHx (s[k].toNat / 16) = X at e1 E1
          generalize eHx (s[k].toNat % 16) = Y at e2 E1
          go_wp2_with fail
          go_region_held3 (fun _ => True) (trivial) ((refine step_append_nums w _ (by rfl) _ _ 22 (by rfl) 5 .u8 1 Tryz.underlying22 Tryz.infoB (by decide) _ (ni (esc (s.data.toList.take k))) [37, (X.toNat : Int), (Y.toNat : Int)] (by rfl) ((hown.alloc _).drew) ((hbel.alloc hbel.size _).drew) wr.heap.size 3 (by exact heap_alloc_new wr _) (by rfl) rfl (by decide) (by omega) ?_; intro g cap w1 hown1 hbel1))
          all_goals go_wp2
          all_goals
            go_roundw
            case rel => exact ⟨k + 1, by omega, by go_num, by rw [HS.out, E1.out]; exact hown1, hbel1⟩
            case measure => simp [intOf]; omega
      · have hcv := conv_owned wr 22 5 9 Tryz.underlying22 Tryz.underlying5 Tryz.underlying9 hown
        have HE : Hid (s.data.toList.take k = s.data.toList) := List.take_of_length_le (by simp; omega)
        go_wp2
        go_ret
        exact ⟨by rw [HE.out, ni_str, EV.out]; rfl, hbel⟩
  · have EV : Hid (escV s = []) := by show _ = _; unfold escV; rw [if_neg hs]
    have d1 : decide (100000 < (s.size : Int)) = true := by simp; omega
    go_enter Tryz.func117, Tryz.ntmps117
    go_wp2
    go_ret
    exact ⟨by rw [EV.out]; rfl, Below.refl _ _⟩
end Go.Proofs.YtcfahbcpfjhajaaGreatDoor
namespace Go.Proofs.YtcfahbcpfjhajaaGreatDoor
open Go.RowKit
/-! The specification's UnEscape. -/
end Go.Proofs.YtcfahbcpfjhajaaGreatDoor
