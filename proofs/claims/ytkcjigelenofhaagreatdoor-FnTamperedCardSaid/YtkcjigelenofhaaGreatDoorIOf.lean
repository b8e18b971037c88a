import Derived.Test.YtkcjigelenofhaaGreatDoorIPlain
import Derived.Test.YtkcjigelenofhaaGreatDoorR1
namespace Go.Proofs.YtkcjigelenofhaaGreatDoor
open Go.RowKit
set_option maxRecDepth 20000 in
theorem isValueSign_ok (r : Int) (w : World) : Calls Tryz.prog 102 #[.int .i32 r] w fun e w' => e = .returned (.bool (pb (rIn 32 126 r))) ∧ w' = w := by
 by_cases h1 : (32 : Int) ≤ r
 · by_cases h2 : r ≤ 126
   · have E : Hid (pb (rIn 32 126 r) = true) := pb_t ⟨h1, h2⟩
     go_enter Tryz.func102, Tryz.ntmps102
     go_wp2
     go_ret
     exact ⟨by rw [E.out]; rfl, rfl⟩
   · have E : Hid (pb (rIn 32 126 r) = false) := pb_f fun h => h2 h.2
     go_enter Tryz.func102, Tryz.ntmps102
     go_wp2
     go_ret
     exact ⟨by rw [E.out]; rfl, rfl⟩
 · have E : Hid (pb (rIn 32 126 r) = false) := pb_f fun h => h1 h.1
   go_enter Tryz.func102, Tryz.ntmps102
   go_wp2
   go_ret
   exact ⟨by rw [E.out]; rfl, rfl⟩
def nmQ (r : Int) : Prop := rIn 97 122 r ∨ rIn 48 57 r ∨ r = 45
set_option maxRecDepth 20000 in
set_option maxHeartbeats 1000000 in
theorem isHeaderSign_ok (r : Int) (w : World) : Calls Tryz.prog 101 #[.int .i32 r] w fun e w' => e = .returned (.bool (pb (nmQ r))) ∧ w' = w := by
 have KS := fun wx => hid (isSmall_ok r wx)
 have KD := fun wx => hid (isDigit_ok r wx)
 by_cases a1 : rIn 97 122 r
 · have E : Hid (pb (nmQ r) = true) := pb_t (Or.inl a1)
   rw [pb_t a1] at KS
   clear a1
   go_enter Tryz.func101, Tryz.ntmps101
   go_wp2_with fail
   refine (KS _).out.mono ?_
   rintro e w1 ⟨rfl, hw⟩
   obtain rfl := hw.symm
   go_wp2
   go_ret
   exact ⟨by rw [E.out]; rfl, rfl⟩
 · rw [pb_f a1] at KS
   by_cases a2 : rIn 48 57 r
   · have E : Hid (pb (nmQ r) = true) := pb_t (Or.inr (Or.inl a2))
     rw [pb_t a2] at KD
     clear a1 a2
     go_enter Tryz.func101, Tryz.ntmps101
     go_wp2_with fail
     refine (KS _).out.mono ?_
     rintro e w1 ⟨rfl, hw⟩
     obtain rfl := hw.symm
     go_wp2_with fail
     refine (KD _).out.mono ?_
     rintro e w1 ⟨rfl, hw⟩
     obtain rfl := hw.symm
     go_wp2
     go_ret
     exact ⟨by rw [E.out]; rfl, rfl⟩
   · rw [pb_f a2] at KD
     by_cases a3 : r = 45
     · have E : Hid (pb (nmQ r) = true) := pb_t (Or.inr (Or.inr a3))
       have b3 : (r == 45) = true := by simp; exact a3
       clear a1 a2 a3
       go_enter Tryz.func101, Tryz.ntmps101
       go_wp2_with fail
       refine (KS _).out.mono ?_
       rintro e w1 ⟨rfl, hw⟩
       obtain rfl := hw.symm
       go_wp2_with fail
       refine (KD _).out.mono ?_
       rintro e w1 ⟨rfl, hw⟩
       obtain rfl := hw.symm
       go_wp2
       go_ret
       exact ⟨by rw [E.out]; rfl, rfl⟩
     · have E : Hid (pb (nmQ r) = false) := pb_f fun h => by rcases h with h | h | h <;> contradiction
       have b3 : (r == 45) = false := by simp; exact a3
       clear a1 a2 a3
       go_enter Tryz.func101, Tryz.ntmps101
       go_wp2_with fail
       refine (KS _).out.mono ?_
       rintro e w1 ⟨rfl, hw⟩
       obtain rfl := hw.symm
       go_wp2_with fail
       refine (KD _).out.mono ?_
       rintro e w1 ⟨rfl, hw⟩
       obtain rfl := hw.symm
       go_wp2
       go_ret
       exact ⟨by rw [E.out]; rfl, rfl⟩
def idQ (r : Int) : Prop := rIn 97 122 r ∨ rIn 48 57 r
set_option maxRecDepth 20000 in
set_option maxHeartbeats 1000000 in
theorem isIdSign_ok (r : Int) (w : World) : Calls Tryz.prog 79 #[.int .i32 r] w fun e w' => e = .returned (.bool (pb (idQ r))) ∧ w' = w := by
 have KS := fun wx => hid (isSmall_ok r wx)
 have KD := fun wx => hid (isDigit_ok r wx)
 by_cases a1 : rIn 97 122 r
 · have E : Hid (pb (idQ r) = true) := pb_t (Or.inl a1)
   rw [pb_t a1] at KS
   clear a1
   go_enter Tryz.func79, Tryz.ntmps79
   go_wp2_with fail
   refine (KS _).out.mono ?_
   rintro e w1 ⟨rfl, hw⟩
   obtain rfl := hw.symm
   go_wp2
   go_ret
   exact ⟨by rw [E.out]; rfl, rfl⟩
 · rw [pb_f a1] at KS
   by_cases a2 : rIn 48 57 r
   · have E : Hid (pb (idQ r) = true) := pb_t (Or.inr a2)
     rw [pb_t a2] at KD
     clear a1 a2
     go_enter Tryz.func79, Tryz.ntmps79
     go_wp2_with fail
     refine (KS _).out.mono ?_
     rintro e w1 ⟨rfl, hw⟩
     obtain rfl := hw.symm
     go_wp2_with fail
     refine (KD _).out.mono ?_
     rintro e w1 ⟨rfl, hw⟩
     obtain rfl := hw.symm
     go_wp2
     go_ret
     exact ⟨by rw [E.out]; rfl, rfl⟩
   · rw [pb_f a2] at KD
     have E : Hid (pb (idQ r) = false) := pb_f fun h => by rcases h with h | h <;> contradiction
     clear a1 a2
     go_enter Tryz.func79, Tryz.ntmps79
     go_wp2_with fail
     refine (KS _).out.mono ?_
     rintro e w1 ⟨rfl, hw⟩
     obtain rfl := hw.symm
     go_wp2_with fail
     refine (KD _).out.mono ?_
     rintro e w1 ⟨rfl, hw⟩
     obtain rfl := hw.symm
     go_wp2
     go_ret
     exact ⟨by rw [E.out]; rfl, rfl⟩
def ofP (lo hi : Nat) (p : Nat → Prop) (s : ByteArray) : Prop := lo ≤ s.size ∧ s.size ≤ hi ∧ ∀ i (h : i < s.size), p (s[i]'h).toNat
set_option maxRecDepth 20000 in
set_option maxHeartbeats 1000000 in
theorem iOfC (lo hi : Nat) (L H : Int) (hL : L = (lo : Int)) (hH : H = (hi : Int)) (s : ByteArray) (w : World) :
 Calls Tryz.prog 70 #[.string s, .int .i64 L, .int .i64 H, .func (.func 71) #[] #[]] w fun e w' => e = .returned (.bool (pb (ofP lo hi mtC s))) ∧ Below w.heap.size w w' := by
 subst hL
 subst hH
 have HF := hid isCapital_ok
 have H1 : Hid (∀ c : Nat, c < 128 → ((rIn 65 90) (c : Int) ↔ mtC c)) := fun c _ => by unfold rIn mtC; omega
 have H2 : Hid (∀ r : Nat, 128 ≤ r → ¬ (rIn 65 90) (r : Int)) := fun c _ => by unfold rIn; omega
 have H3 : Hid (∀ c : Nat, 128 ≤ c → ¬ mtC c) := fun c _ => by unfold mtC; omega
 by_cases g1 : lo ≤ s.size
 case neg =>
  have E : Hid (pb (ofP lo hi mtC s) = false) := pb_f fun h => g1 h.1
  have d1 : s.size < lo := by omega
  clear g1
  go_enter Tryz.func70, Tryz.ntmps70
  go_wp2
  go_ret
  exact ⟨by rw [E.out]; rfl, Below.refl _ _⟩
 have d1 : ¬ s.size < lo := by omega
 by_cases g2 : s.size ≤ hi
 case neg =>
  have E : Hid (pb (ofP lo hi mtC s) = false) := pb_f fun h => g2 h.2.1
  have d2 : hi < s.size := by omega
  clear g1 g2
  go_enter Tryz.func70, Tryz.ntmps70
  go_wp2
  go_ret
  exact ⟨by rw [E.out]; rfl, Below.refl _ _⟩
 have d2 : ¬ hi < s.size := by omega
 have G1 := hid g1
 have G2 := hid g2
 clear g1 g2
 go_enter Tryz.func70, Tryz.ntmps70
 go_wp2_with fail
 clear d1 d2
 go_loopw [10] (fun _ wr => ∃ pos : Nat, pos ≤ s.size ∧ wr = w.iter s pos ∧ ∀ i (h : i < s.size), i < pos → mtC (s[i]'h).toNat) (fun _ wr => s.size - wr.iterPos w.heap.size)
 case atStart => exact ⟨0, Nat.zero_le _, rfl, fun i _ h => absurd h (Nat.not_lt_zero _)⟩
 case round =>
  obtain ⟨pos, hps, rfl, hall⟩ := hrel
  have HA := hid hall
  clear hall
  have HB : ∀ n, Hid (Below w.heap.size w (w.iter s n)) := fun n => (Below.refl _ _).alloc (Nat.le_refl _) _
  by_cases hlt : pos < s.size
  · by_cases ha : (s[pos]'hlt).toNat < 128
    · have hnx : ∀ ty, (Instr.next (.pointer (some ⟨w.heap.size, 0, none⟩)) true ty).run Tryz.prog (w.iter s pos) = _ := fun ty => run_next_ascii w s pos ty hlt ha
      have KF := fun wx => hid (HF.out ((s[pos]'hlt).toNat : Int) wx)
      by_cases hp : mtC (s[pos]'hlt).toNat
      · rw [pb_t ((H1.out _ ha).2 hp)] at KF
        have N : Hid (∀ i (h : i < s.size), i < pos + 1 → mtC (s[i]'h).toNat) := fun i h hi => by
         by_cases e : i = pos
         · subst e; exact hp
         · exact HA.out i h (by omega)
        clear hp ha
        go_wp2_with fail
        refine (KF _).out.mono ?_
        rintro e w1 ⟨rfl, hw⟩
        obtain rfl := hw.symm
        go_wp2
        go_roundw
        case rel => exact ⟨pos + 1, by omega, rfl, N.out⟩
        case measure => simp; omega
      · rw [pb_f fun h => hp ((H1.out _ ha).1 h)] at KF
        have E : Hid (pb (ofP lo hi mtC s) = false) := pb_f fun h => hp (h.2.2 pos hlt)
        clear hp ha
        go_wp2_with fail
        refine (KF _).out.mono ?_
        rintro e w1 ⟨rfl, hw⟩
        obtain rfl := hw.symm
        go_wp2
        go_ret
        exact ⟨by rw [E.out]; rfl, (HB _).out⟩
    · have hnx : ∀ ty, (Instr.next (.pointer (some ⟨w.heap.size, 0, none⟩)) true ty).run Tryz.prog (w.iter s pos) = _ := fun ty => run_next_any w s pos ty hlt
      have hr := (decode_high s pos hlt (by omega)).1
      have E : Hid (pb (ofP lo hi mtC s) = false) := pb_f fun h => H3.out _ (by omega) (h.2.2 pos hlt)
      obtain ⟨R, hR⟩ : ∃ R, R = (Utf8.decode s pos).1 := ⟨_, rfl⟩
      obtain ⟨D, hD⟩ : ∃ D, D = (Utf8.decode s pos).2 := ⟨_, rfl⟩
      rw [← hR] at hr hnx
      rw [← hD] at hnx
      have KF := fun wx => hid (HF.out (R : Int) wx)
      rw [pb_f (H2.out R hr)] at KF
      clear hR hD hr ha
      go_wp2_with fail
      refine (KF _).out.mono ?_
      rintro e w1 ⟨rfl, hw⟩
      obtain rfl := hw.symm
      go_wp2
      go_ret
      exact ⟨by rw [E.out]; rfl, (HB _).out⟩
  · have hnx : ∀ ty, (Instr.next (.pointer (some ⟨w.heap.size, 0, none⟩)) true ty).run Tryz.prog (w.iter s pos) = _ := fun ty => run_next_end w s pos ty hlt
    have E : Hid (pb (ofP lo hi mtC s) = true) := pb_t ⟨G1.out, G2.out, fun i h => HA.out i h (by omega)⟩
    go_wp2
    go_ret
    exact ⟨by rw [E.out]; rfl, (HB _).out⟩
set_option maxRecDepth 20000 in
set_option maxHeartbeats 1000000 in
theorem iOfH (lo hi : Nat) (L H : Int) (hL : L = (lo : Int)) (hH : H = (hi : Int)) (s : ByteArray) (w : World) :
 Calls Tryz.prog 70 #[.string s, .int .i64 L, .int .i64 H, .func (.func 101) #[] #[]] w fun e w' => e = .returned (.bool (pb (ofP lo hi nmC s))) ∧ Below w.heap.size w w' := by
 subst hL
 subst hH
 have HF := hid isHeaderSign_ok
 have H1 : Hid (∀ c : Nat, c < 128 → (nmQ (c : Int) ↔ nmC c)) := fun c _ => by unfold nmQ rIn nmC; omega
 have H2 : Hid (∀ r : Nat, 128 ≤ r → ¬ nmQ (r : Int)) := fun c _ => by unfold nmQ rIn; omega
 have H3 : Hid (∀ c : Nat, 128 ≤ c → ¬ nmC c) := fun c _ => by unfold nmC; omega
 by_cases g1 : lo ≤ s.size
 case neg =>
  have E : Hid (pb (ofP lo hi nmC s) = false) := pb_f fun h => g1 h.1
  have d1 : s.size < lo := by omega
  clear g1
  go_enter Tryz.func70, Tryz.ntmps70
  go_wp2
  go_ret
  exact ⟨by rw [E.out]; rfl, Below.refl _ _⟩
 have d1 : ¬ s.size < lo := by omega
 by_cases g2 : s.size ≤ hi
 case neg =>
  have E : Hid (pb (ofP lo hi nmC s) = false) := pb_f fun h => g2 h.2.1
  have d2 : hi < s.size := by omega
  clear g1 g2
  go_enter Tryz.func70, Tryz.ntmps70
  go_wp2
  go_ret
  exact ⟨by rw [E.out]; rfl, Below.refl _ _⟩
 have d2 : ¬ hi < s.size := by omega
 have G1 := hid g1
 have G2 := hid g2
 clear g1 g2
 go_enter Tryz.func70, Tryz.ntmps70
 go_wp2_with fail
 clear d1 d2
 go_loopw [10] (fun _ wr => ∃ pos : Nat, pos ≤ s.size ∧ wr = w.iter s pos ∧ ∀ i (h : i < s.size), i < pos → nmC (s[i]'h).toNat) (fun _ wr => s.size - wr.iterPos w.heap.size)
 case atStart => exact ⟨0, Nat.zero_le _, rfl, fun i _ h => absurd h (Nat.not_lt_zero _)⟩
 case round =>
  obtain ⟨pos, hps, rfl, hall⟩ := hrel
  have HA := hid hall
  clear hall
  have HB : ∀ n, Hid (Below w.heap.size w (w.iter s n)) := fun n => (Below.refl _ _).alloc (Nat.le_refl _) _
  by_cases hlt : pos < s.size
  · by_cases ha : (s[pos]'hlt).toNat < 128
    · have hnx : ∀ ty, (Instr.next (.pointer (some ⟨w.heap.size, 0, none⟩)) true ty).run Tryz.prog (w.iter s pos) = _ := fun ty => run_next_ascii w s pos ty hlt ha
      have KF := fun wx => hid (HF.out ((s[pos]'hlt).toNat : Int) wx)
      by_cases hp : nmC (s[pos]'hlt).toNat
      · rw [pb_t ((H1.out _ ha).2 hp)] at KF
        have N : Hid (∀ i (h : i < s.size), i < pos + 1 → nmC (s[i]'h).toNat) := fun i h hi => by
         by_cases e : i = pos
         · subst e; exact hp
         · exact HA.out i h (by omega)
        clear hp ha
        go_wp2_with fail
        refine (KF _).out.mono ?_
        rintro e w1 ⟨rfl, hw⟩
        obtain rfl := hw.symm
        go_wp2
        go_roundw
        case rel => exact ⟨pos + 1, by omega, rfl, N.out⟩
        case measure => simp; omega
      · rw [pb_f fun h => hp ((H1.out _ ha).1 h)] at KF
        have E : Hid (pb (ofP lo hi nmC s) = false) := pb_f fun h => hp (h.2.2 pos hlt)
        clear hp ha
        go_wp2_with fail
        refine (KF _).out.mono ?_
        rintro e w1 ⟨rfl, hw⟩
        obtain rfl := hw.symm
        go_wp2
        go_ret
        exact ⟨by rw [E.out]; rfl, (HB _).out⟩
    · have hnx : ∀ ty, (Instr.next (.pointer (some ⟨w.heap.size, 0, none⟩)) true ty).run Tryz.prog (w.iter s pos) = _ := fun ty => run_next_any w s pos ty hlt
      have hr := (decode_high s pos hlt (by omega)).1
      have E : Hid (pb (ofP lo hi nmC s) = false) := pb_f fun h => H3.out _ (by omega) (h.2.2 pos hlt)
      obtain ⟨R, hR⟩ : ∃ R, R = (Utf8.decode s pos).1 := ⟨_, rfl⟩
      obtain ⟨D, hD⟩ : ∃ D, D = (Utf8.decode s pos).2 := ⟨_, rfl⟩
      rw [← hR] at hr hnx
      rw [← hD] at hnx
      have KF := fun wx => hid (HF.out (R : Int) wx)
      rw [pb_f (H2.out R hr)] at KF
      clear hR hD hr ha
      go_wp2_with fail
      refine (KF _).out.mono ?_
      rintro e w1 ⟨rfl, hw⟩
      obtain rfl := hw.symm
      go_wp2
      go_ret
      exact ⟨by rw [E.out]; rfl, (HB _).out⟩
  · have hnx : ∀ ty, (Instr.next (.pointer (some ⟨w.heap.size, 0, none⟩)) true ty).run Tryz.prog (w.iter s pos) = _ := fun ty => run_next_end w s pos ty hlt
    have E : Hid (pb (ofP lo hi nmC s) = true) := pb_t ⟨G1.out, G2.out, fun i h => HA.out i h (by omega)⟩
    go_wp2
    go_ret
    exact ⟨by rw [E.out]; rfl, (HB _).out⟩
set_option maxRecDepth 20000 in
set_option maxHeartbeats 1000000 in
theorem iOfV (lo hi : Nat) (L H : Int) (hL : L = (lo : Int)) (hH : H = (hi : Int)) (s : ByteArray) (w : World) :
 Calls Tryz.prog 70 #[.string s, .int .i64 L, .int .i64 H, .func (.func 102) #[] #[]] w fun e w' => e = .returned (.bool (pb (ofP lo hi vlC s))) ∧ Below w.heap.size w w' := by
 subst hL
 subst hH
 have HF := hid isValueSign_ok
 have H1 : Hid (∀ c : Nat, c < 128 → ((rIn 32 126) (c : Int) ↔ vlC c)) := fun c _ => by unfold rIn vlC; omega
 have H2 : Hid (∀ r : Nat, 128 ≤ r → ¬ (rIn 32 126) (r : Int)) := fun c _ => by unfold rIn; omega
 have H3 : Hid (∀ c : Nat, 128 ≤ c → ¬ vlC c) := fun c _ => by unfold vlC; omega
 by_cases g1 : lo ≤ s.size
 case neg =>
  have E : Hid (pb (ofP lo hi vlC s) = false) := pb_f fun h => g1 h.1
  have d1 : s.size < lo := by omega
  clear g1
  go_enter Tryz.func70, Tryz.ntmps70
  go_wp2
  go_ret
  exact ⟨by rw [E.out]; rfl, Below.refl _ _⟩
 have d1 : ¬ s.size < lo := by omega
 by_cases g2 : s.size ≤ hi
 case neg =>
  have E : Hid (pb (ofP lo hi vlC s) = false) := pb_f fun h => g2 h.2.1
  have d2 : hi < s.size := by omega
  clear g1 g2
  go_enter Tryz.func70, Tryz.ntmps70
  go_wp2
  go_ret
  exact ⟨by rw [E.out]; rfl, Below.refl _ _⟩
 have d2 : ¬ hi < s.size := by omega
 have G1 := hid g1
 have G2 := hid g2
 clear g1 g2
 go_enter Tryz.func70, Tryz.ntmps70
 go_wp2_with fail
 clear d1 d2
 go_loopw [10] (fun _ wr => ∃ pos : Nat, pos ≤ s.size ∧ wr = w.iter s pos ∧ ∀ i (h : i < s.size), i < pos → vlC (s[i]'h).toNat) (fun _ wr => s.size - wr.iterPos w.heap.size)
 case atStart => exact ⟨0, Nat.zero_le _, rfl, fun i _ h => absurd h (Nat.not_lt_zero _)⟩
 case round =>
  obtain ⟨pos, hps, rfl, hall⟩ := hrel
  have HA := hid hall
  clear hall
  have HB : ∀ n, Hid (Below w.heap.size w (w.iter s n)) := fun n => (Below.refl _ _).alloc (Nat.le_refl _) _
  by_cases hlt : pos < s.size
  · by_cases ha : (s[pos]'hlt).toNat < 128
    · have hnx : ∀ ty, (Instr.next (.pointer (some ⟨w.heap.size, 0, none⟩)) true ty).run Tryz.prog (w.iter s pos) = _ := fun ty => run_next_ascii w s pos ty hlt ha
      have KF := fun wx => hid (HF.out ((s[pos]'hlt).toNat : Int) wx)
      by_cases hp : vlC (s[pos]'hlt).toNat
      · rw [pb_t ((H1.out _ ha).2 hp)] at KF
        have N : Hid (∀ i (h : i < s.size), i < pos + 1 → vlC (s[i]'h).toNat) := fun i h hi => by
         by_cases e : i = pos
         · subst e; exact hp
         · exact HA.out i h (by omega)
        clear hp ha
        go_wp2_with fail
        refine (KF _).out.mono ?_
        rintro e w1 ⟨rfl, hw⟩
        obtain rfl := hw.symm
        go_wp2
        go_roundw
        case rel => exact ⟨pos + 1, by omega, rfl, N.out⟩
        case measure => simp; omega
      · rw [pb_f fun h => hp ((H1.out _ ha).1 h)] at KF
        have E : Hid (pb (ofP lo hi vlC s) = false) := pb_f fun h => hp (h.2.2 pos hlt)
        clear hp ha
        go_wp2_with fail
        refine (KF _).out.mono ?_
        rintro e w1 ⟨rfl, hw⟩
        obtain rfl := hw.symm
        go_wp2
        go_ret
        exact ⟨by rw [E.out]; rfl, (HB _).out⟩
    · have hnx : ∀ ty, (Instr.next (.pointer (some ⟨w.heap.size, 0, none⟩)) true ty).run Tryz.prog (w.iter s pos) = _ := fun ty => run_next_any w s pos ty hlt
      have hr := (decode_high s pos hlt (by omega)).1
      have E : Hid (pb (ofP lo hi vlC s) = false) := pb_f fun h => H3.out _ (by omega) (h.2.2 pos hlt)
      obtain ⟨R, hR⟩ : ∃ R, R = (Utf8.decode s pos).1 := ⟨_, rfl⟩
      obtain ⟨D, hD⟩ : ∃ D, D = (Utf8.decode s pos).2 := ⟨_, rfl⟩
      rw [← hR] at hr hnx
      rw [← hD] at hnx
      have KF := fun wx => hid (HF.out (R : Int) wx)
      rw [pb_f (H2.out R hr)] at KF
      clear hR hD hr ha
      go_wp2_with fail
      refine (KF _).out.mono ?_
      rintro e w1 ⟨rfl, hw⟩
      obtain rfl := hw.symm
      go_wp2
      go_ret
      exact ⟨by rw [E.out]; rfl, (HB _).out⟩
  · have hnx : ∀ ty, (Instr.next (.pointer (some ⟨w.heap.size, 0, none⟩)) true ty).run Tryz.prog (w.iter s pos) = _ := fun ty => run_next_end w s pos ty hlt
    have E : Hid (pb (ofP lo hi vlC s) = true) := pb_t ⟨G1.out, G2.out, fun i h => HA.out i h (by omega)⟩
    go_wp2
    go_ret
    exact ⟨by rw [E.out]; rfl, (HB _).out⟩
set_option maxRecDepth 20000 in
set_option maxHeartbeats 1000000 in
theorem iOfI (lo hi : Nat) (L H : Int) (hL : L = (lo : Int)) (hH : H = (hi : Int)) (s : ByteArray) (w : World) :
 Calls Tryz.prog 70 #[.string s, .int .i64 L, .int .i64 H, .func (.func 79) #[] #[]] w fun e w' => e = .returned (.bool (pb (ofP lo hi idC s))) ∧ Below w.heap.size w w' := by
 subst hL
 subst hH
 have HF := hid isIdSign_ok
 have H1 : Hid (∀ c : Nat, c < 128 → (idQ (c : Int) ↔ idC c)) := fun c _ => by unfold idQ rIn idC; omega
 have H2 : Hid (∀ r : Nat, 128 ≤ r → ¬ idQ (r : Int)) := fun c _ => by unfold idQ rIn; omega
 have H3 : Hid (∀ c : Nat, 128 ≤ c → ¬ idC c) := fun c _ => by unfold idC; omega
 by_cases g1 : lo ≤ s.size
 case neg =>
  have E : Hid (pb (ofP lo hi idC s) = false) := pb_f fun h => g1 h.1
  have d1 : s.size < lo := by omega
  clear g1
  go_enter Tryz.func70, Tryz.ntmps70
  go_wp2
  go_ret
  exact ⟨by rw [E.out]; rfl, Below.refl _ _⟩
 have d1 : ¬ s.size < lo := by omega
 by_cases g2 : s.size ≤ hi
 case neg =>
  have E : Hid (pb (ofP lo hi idC s) = false) := pb_f fun h => g2 h.2.1
  have d2 : hi < s.size := by omega
  clear g1 g2
  go_enter Tryz.func70, Tryz.ntmps70
  go_wp2
  go_ret
  exact ⟨by rw [E.out]; rfl, Below.refl _ _⟩
 have d2 : ¬ hi < s.size := by omega
 have G1 := hid g1
 have G2 := hid g2
 clear g1 g2
 go_enter Tryz.func70, Tryz.ntmps70
 go_wp2_with fail
 clear d1 d2
 go_loopw [10] (fun _ wr => ∃ pos : Nat, pos ≤ s.size ∧ wr = w.iter s pos ∧ ∀ i (h : i < s.size), i < pos → idC (s[i]'h).toNat) (fun _ wr => s.size - wr.iterPos w.heap.size)
 case atStart => exact ⟨0, Nat.zero_le _, rfl, fun i _ h => absurd h (Nat.not_lt_zero _)⟩
 case round =>
  obtain ⟨pos, hps, rfl, hall⟩ := hrel
  have HA := hid hall
  clear hall
  have HB : ∀ n, Hid (Below w.heap.size w (w.iter s n)) := fun n => (Below.refl _ _).alloc (Nat.le_refl _) _
  by_cases hlt : pos < s.size
  · by_cases ha : (s[pos]'hlt).toNat < 128
    · have hnx : ∀ ty, (Instr.next (.pointer (some ⟨w.heap.size, 0, none⟩)) true ty).run Tryz.prog (w.iter s pos) = _ := fun ty => run_next_ascii w s pos ty hlt ha
      have KF := fun wx => hid (HF.out ((s[pos]'hlt).toNat : Int) wx)
      by_cases hp : idC (s[pos]'hlt).toNat
      · rw [pb_t ((H1.out _ ha).2 hp)] at KF
        have N : Hid (∀ i (h : i < s.size), i < pos + 1 → idC (s[i]'h).toNat) := fun i h hi => by
         by_cases e : i = pos
         · subst e; exact hp
         · exact HA.out i h (by omega)
        clear hp ha
        go_wp2_with fail
        refine (KF _).out.mono ?_
        rintro e w1 ⟨rfl, hw⟩
        obtain rfl := hw.symm
        go_wp2
        go_roundw
        case rel => exact ⟨pos + 1, by omega, rfl, N.out⟩
        case measure => simp; omega
      · rw [pb_f fun h => hp ((H1.out _ ha).1 h)] at KF
        have E : Hid (pb (ofP lo hi idC s) = false) := pb_f fun h => hp (h.2.2 pos hlt)
        clear hp ha
        go_wp2_with fail
        refine (KF _).out.mono ?_
        rintro e w1 ⟨rfl, hw⟩
        obtain rfl := hw.symm
        go_wp2
        go_ret
        exact ⟨by rw [E.out]; rfl, (HB _).out⟩
    · have hnx : ∀ ty, (Instr.next (.pointer (some ⟨w.heap.size, 0, none⟩)) true ty).run Tryz.prog (w.iter s pos) = _ := fun ty => run_next_any w s pos ty hlt
      have hr := (decode_high s pos hlt (by omega)).1
      have E : Hid (pb (ofP lo hi idC s) = false) := pb_f fun h => H3.out _ (by omega) (h.2.2 pos hlt)
      obtain ⟨R, hR⟩ : ∃ R, R = (Utf8.decode s pos).1 := ⟨_, rfl⟩
      obtain ⟨D, hD⟩ : ∃ D, D = (Utf8.decode s pos).2 := ⟨_, rfl⟩
      rw [← hR] at hr hnx
      rw [← hD] at hnx
      have KF := fun wx => hid (HF.out (R : Int) wx)
      rw [pb_f (H2.out R hr)] at KF
      clear hR hD hr ha
      go_wp2_with fail
      refine (KF _).out.mono ?_
      rintro e w1 ⟨rfl, hw⟩
      obtain rfl := hw.symm
      go_wp2
      go_ret
      exact ⟨by rw [E.out]; rfl, (HB _).out⟩
  · have hnx : ∀ ty, (Instr.next (.pointer (some ⟨w.heap.size, 0, none⟩)) true ty).run Tryz.prog (w.iter s pos) = _ := fun ty => run_next_end w s pos ty hlt
    have E : Hid (pb (ofP lo hi idC s) = true) := pb_t ⟨G1.out, G2.out, fun i h => HA.out i h (by omega)⟩
    go_wp2
    go_ret
    exact ⟨by rw [E.out]; rfl, (HB _).out⟩
end Go.Proofs.YtkcjigelenofhaaGreatDoor
