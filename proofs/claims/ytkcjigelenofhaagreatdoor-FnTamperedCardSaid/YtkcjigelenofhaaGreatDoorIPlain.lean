import Derived.Test.YtkcjigelenofhaaGreatDoorG3
import Derived.Test.YtkcjigelenofhaaGreatDoorG2
import Derived.Lib.OthersKept
namespace Go.Proofs.YtkcjigelenofhaaGreatDoor
open Go.RowKit
theorem get_lt (s : ByteArray) (i : Nat) (h : i < s.size) : s.get! i = s[i]'h := by
 simp [ByteArray.get!, getElem!_pos, h]
 rfl
theorem dec_cont (s : ByteArray) (pos : Nat) (h : pos < s.size) (ha : 128 ≤ (s[pos]'h).toNat) (k : Nat) (hk : k < (Utf8.decode s pos).2) :
 pos + k < s.size ∧ 128 ≤ (s.get! (pos + k)).toNat := by
 have hn : ¬ (s[pos]'h).toNat < 128 := by omega
 have h0 : pos + 0 < s.size ∧ 128 ≤ (s.get! (pos + 0)).toNat := ⟨h, by rw [get_at s pos h]; exact ha⟩
 simp only [Utf8.decode, get_at s pos h, hn, if_false] at hk
 repeat' split at hk
 all_goals simp only [Bool.and_eq_true, decide_eq_true_eq, beq_iff_eq] at *
 all_goals first
  | (have : k = 0 := by omega
     subst this
     exact h0)
  | (have : k = 0 ∨ k = 1 := by omega
     rcases this with rfl | rfl
     · exact h0
     · refine ⟨by omega, ?_⟩
       omega)
  | (have : k = 0 ∨ k = 1 ∨ k = 2 := by omega
     rcases this with rfl | rfl | rfl
     · exact h0
     · refine ⟨by omega, ?_⟩
       omega
     · refine ⟨by omega, ?_⟩
       omega)
  | (have : k = 0 ∨ k = 1 ∨ k = 2 ∨ k = 3 := by omega
     rcases this with rfl | rfl | rfl | rfl
     · exact h0
     · refine ⟨by omega, ?_⟩
       omega
     · refine ⟨by omega, ?_⟩
       omega
     · refine ⟨by omega, ?_⟩
       omega)
theorem dec_wide (s : ByteArray) (pos : Nat) (h : pos < s.size) (ha : 128 ≤ (s[pos]'h).toNat) :
 1 ≤ (Utf8.decode s pos).2 ∧ pos + (Utf8.decode s pos).2 ≤ s.size ∧ ∀ i (hi : i < s.size), pos ≤ i → i < pos + (Utf8.decode s pos).2 → 128 ≤ (s[i]'hi).toNat := by
 have h1 := (decode_high s pos h ha).2
 refine ⟨h1, ?_, fun i hi h2 h3 => ?_⟩
 · have := (dec_cont s pos h ha ((Utf8.decode s pos).2 - 1) (by omega)).1
   omega
 · have := (dec_cont s pos h ha (i - pos) (by omega)).2
   rw [show pos + (i - pos) = i by omega, get_lt s i hi] at this
   exact this
def rIn (lo hi r : Int) : Prop := lo ≤ r ∧ r ≤ hi
def iPl (r : Int) : Prop := r = 45 ∨ r = 95 ∨ r = 46 ∨ r = 47 ∨ (48 ≤ r ∧ r ≤ 57) ∨ (97 ≤ r ∧ r ≤ 122) ∨ (65 ≤ r ∧ r ≤ 90)
theorem iPl_nat (c : Nat) : iPl (c : Int) ↔ ePl c := by unfold iPl ePl; omega
set_option maxRecDepth 20000 in
theorem isDigit_ok (r : Int) (w : World) : Calls Tryz.prog 106 #[.int .i32 r] w fun e w' => e = .returned (.bool (pb (rIn 48 57 r))) ∧ w' = w := by
 by_cases h1 : (48 : Int) ≤ r
 · by_cases h2 : r ≤ 57
   · have E : Hid (pb (rIn 48 57 r) = true) := pb_t ⟨h1, h2⟩
     go_enter Tryz.func106, Tryz.ntmps106
     go_wp2
     go_ret
     exact ⟨by rw [E.out]; rfl, rfl⟩
   · have E : Hid (pb (rIn 48 57 r) = false) := pb_f fun h => h2 h.2
     go_enter Tryz.func106, Tryz.ntmps106
     go_wp2
     go_ret
     exact ⟨by rw [E.out]; rfl, rfl⟩
 · have E : Hid (pb (rIn 48 57 r) = false) := pb_f fun h => h1 h.1
   go_enter Tryz.func106, Tryz.ntmps106
   go_wp2
   go_ret
   exact ⟨by rw [E.out]; rfl, rfl⟩
set_option maxRecDepth 20000 in
theorem isSmall_ok (r : Int) (w : World) : Calls Tryz.prog 105 #[.int .i32 r] w fun e w' => e = .returned (.bool (pb (rIn 97 122 r))) ∧ w' = w := by
 by_cases h1 : (97 : Int) ≤ r
 · by_cases h2 : r ≤ 122
   · have E : Hid (pb (rIn 97 122 r) = true) := pb_t ⟨h1, h2⟩
     go_enter Tryz.func105, Tryz.ntmps105
     go_wp2
     go_ret
     exact ⟨by rw [E.out]; rfl, rfl⟩
   · have E : Hid (pb (rIn 97 122 r) = false) := pb_f fun h => h2 h.2
     go_enter Tryz.func105, Tryz.ntmps105
     go_wp2
     go_ret
     exact ⟨by rw [E.out]; rfl, rfl⟩
 · have E : Hid (pb (rIn 97 122 r) = false) := pb_f fun h => h1 h.1
   go_enter Tryz.func105, Tryz.ntmps105
   go_wp2
   go_ret
   exact ⟨by rw [E.out]; rfl, rfl⟩
set_option maxRecDepth 20000 in
theorem isCapital_ok (r : Int) (w : World) : Calls Tryz.prog 71 #[.int .i32 r] w fun e w' => e = .returned (.bool (pb (rIn 65 90 r))) ∧ w' = w := by
 by_cases h1 : (65 : Int) ≤ r
 · by_cases h2 : r ≤ 90
   · have E : Hid (pb (rIn 65 90 r) = true) := pb_t ⟨h1, h2⟩
     go_enter Tryz.func71, Tryz.ntmps71
     go_wp2
     go_ret
     exact ⟨by rw [E.out]; rfl, rfl⟩
   · have E : Hid (pb (rIn 65 90 r) = false) := pb_f fun h => h2 h.2
     go_enter Tryz.func71, Tryz.ntmps71
     go_wp2
     go_ret
     exact ⟨by rw [E.out]; rfl, rfl⟩
 · have E : Hid (pb (rIn 65 90 r) = false) := pb_f fun h => h1 h.1
   go_enter Tryz.func71, Tryz.ntmps71
   go_wp2
   go_ret
   exact ⟨by rw [E.out]; rfl, rfl⟩
set_option maxRecDepth 20000 in
set_option maxHeartbeats 1000000 in
theorem isPlain_ok (r : Int) (w : World) : Calls Tryz.prog 132 #[.int .i32 r] w fun e w' => e = .returned (.bool (pb (iPl r))) ∧ w' = w := by
 by_cases q0 : r = 45
 · subst q0
   have E : Hid (pb (iPl 45) = true) := pb_t (by unfold iPl; omega)
   go_enter Tryz.func132, Tryz.ntmps132
   go_wp2
   go_ret
   exact ⟨by rw [E.out]; rfl, rfl⟩
 · have p0 : (r == 45) = false := by simp; omega
   by_cases q1 : r = 95
   · subst q1
     have E : Hid (pb (iPl 95) = true) := pb_t (by unfold iPl; omega)
     go_enter Tryz.func132, Tryz.ntmps132
     go_wp2
     go_ret
     exact ⟨by rw [E.out]; rfl, rfl⟩
   · have p1 : (r == 95) = false := by simp; omega
     by_cases q2 : r = 46
     · subst q2
       have E : Hid (pb (iPl 46) = true) := pb_t (by unfold iPl; omega)
       go_enter Tryz.func132, Tryz.ntmps132
       go_wp2
       go_ret
       exact ⟨by rw [E.out]; rfl, rfl⟩
     · have p2 : (r == 46) = false := by simp; omega
       by_cases q3 : r = 47
       · subst q3
         have E : Hid (pb (iPl 47) = true) := pb_t (by unfold iPl; omega)
         go_enter Tryz.func132, Tryz.ntmps132
         go_wp2
         go_ret
         exact ⟨by rw [E.out]; rfl, rfl⟩
       · have p3 : (r == 47) = false := by simp; omega
         by_cases a1 : (48 : Int) ≤ r ∧ r ≤ 57
         · skip
           have E : Hid (pb (iPl r) = true) := pb_t (by unfold iPl; omega)
           have KisDigit := fun wx => hid (isDigit_ok r wx)
           rw [pb_t (show rIn 48 57 r by unfold rIn; omega)] at KisDigit
           clear q0 q1 q2 q3
           go_enter Tryz.func132, Tryz.ntmps132
           go_wp2_with fail
           refine (KisDigit _).out.mono ?_
           rintro e w1 ⟨rfl, hw⟩
           obtain rfl := hw.symm
           go_wp2
           go_ret
           exact ⟨by rw [E.out]; rfl, rfl⟩
         · by_cases a2 : (97 : Int) ≤ r ∧ r ≤ 122
           · skip
             have E : Hid (pb (iPl r) = true) := pb_t (by unfold iPl; omega)
             have KisDigit := fun wx => hid (isDigit_ok r wx)
             rw [pb_f (show ¬ rIn 48 57 r by unfold rIn; omega)] at KisDigit
             have KisSmall := fun wx => hid (isSmall_ok r wx)
             rw [pb_t (show rIn 97 122 r by unfold rIn; omega)] at KisSmall
             clear q0 q1 q2 q3
             go_enter Tryz.func132, Tryz.ntmps132
             go_wp2_with fail
             refine (KisDigit _).out.mono ?_
             rintro e w1 ⟨rfl, hw⟩
             obtain rfl := hw.symm
             go_wp2_with fail
             refine (KisSmall _).out.mono ?_
             rintro e w1 ⟨rfl, hw⟩
             obtain rfl := hw.symm
             go_wp2
             go_ret
             exact ⟨by rw [E.out]; rfl, rfl⟩
           · by_cases a3 : (65 : Int) ≤ r ∧ r ≤ 90
             · skip
               have E : Hid (pb (iPl r) = true) := pb_t (by unfold iPl; omega)
               have KisDigit := fun wx => hid (isDigit_ok r wx)
               rw [pb_f (show ¬ rIn 48 57 r by unfold rIn; omega)] at KisDigit
               have KisSmall := fun wx => hid (isSmall_ok r wx)
               rw [pb_f (show ¬ rIn 97 122 r by unfold rIn; omega)] at KisSmall
               have KisCapital := fun wx => hid (isCapital_ok r wx)
               rw [pb_t (show rIn 65 90 r by unfold rIn; omega)] at KisCapital
               clear q0 q1 q2 q3
               go_enter Tryz.func132, Tryz.ntmps132
               go_wp2_with fail
               refine (KisDigit _).out.mono ?_
               rintro e w1 ⟨rfl, hw⟩
               obtain rfl := hw.symm
               go_wp2_with fail
               refine (KisSmall _).out.mono ?_
               rintro e w1 ⟨rfl, hw⟩
               obtain rfl := hw.symm
               go_wp2_with fail
               refine (KisCapital _).out.mono ?_
               rintro e w1 ⟨rfl, hw⟩
               obtain rfl := hw.symm
               go_wp2
               go_ret
               exact ⟨by rw [E.out]; rfl, rfl⟩
             · skip
               have E : Hid (pb (iPl r) = false) := pb_f (by unfold iPl; omega)
               have KisDigit := fun wx => hid (isDigit_ok r wx)
               rw [pb_f (show ¬ rIn 48 57 r by unfold rIn; omega)] at KisDigit
               have KisSmall := fun wx => hid (isSmall_ok r wx)
               rw [pb_f (show ¬ rIn 97 122 r by unfold rIn; omega)] at KisSmall
               have KisCapital := fun wx => hid (isCapital_ok r wx)
               rw [pb_f (show ¬ rIn 65 90 r by unfold rIn; omega)] at KisCapital
               clear q0 q1 q2 q3
               go_enter Tryz.func132, Tryz.ntmps132
               go_wp2_with fail
               refine (KisDigit _).out.mono ?_
               rintro e w1 ⟨rfl, hw⟩
               obtain rfl := hw.symm
               go_wp2_with fail
               refine (KisSmall _).out.mono ?_
               rintro e w1 ⟨rfl, hw⟩
               obtain rfl := hw.symm
               go_wp2_with fail
               refine (KisCapital _).out.mono ?_
               rintro e w1 ⟨rfl, hw⟩
               obtain rfl := hw.symm
               go_wp2
               go_ret
               exact ⟨by rw [E.out]; rfl, rfl⟩
set_option maxRecDepth 20000 in
theorem iTooLong (s : ByteArray) (w : World) : Calls Tryz.prog 73 #[.string s] w fun e w' => e = .returned (.bool (decide ((100000 : Int) < (s.size : Int)))) ∧ w' = w := by
 go_enter Tryz.func73, Tryz.ntmps73
 go_wp2
 go_ret
 exact ⟨rfl, rfl⟩
end Go.Proofs.YtkcjigelenofhaaGreatDoor
