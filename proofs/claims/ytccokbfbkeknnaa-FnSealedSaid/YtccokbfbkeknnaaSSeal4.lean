import Derived.Test.YtccokbfbkeknnaaSSeal3
import Derived.BigQuiet
import Derived.Deep.QuietTactic
import Derived.Deep.CutRange
namespace Go.Proofs.Ytccokbfbkeknnaa
open Go.RowKit
/-! The specification's l11Unwrap. -/
theorem ba_beqS (a b : ByteArray) : (a.toList == b.toList) = decide (a = b) := by
  have e : ∀ x : ByteArray, x.toList = x.data.toList := fun x => by rw [ByteArray.toList_eq]
  rw [e, e]
  by_cases h : a = b
  · subst h; simp
  · rw [decide_eq_false h]
    simp only [beq_eq_false_iff_ne]
    intro hh
    exact h (by cases a; cases b; congr 1; exact Array.toList_inj.1 hh)
set_option maxRecDepth 20000 in
set_option maxHeartbeats 2000000 in
theorem sUnw (m : ByteArray) (c : Int) (wr dt : ByteArray) (nonce : Int) (h1 : nonce ≤ 9223372036854775807) (w : World) :
    Calls Try.prog 42 #[.string m, .agg #[.int .i64 c, .string wr, .string dt], .int .i64 nonce] w fun e w' => e = .returned (.tuple #[.string (unwO m c wr dt nonce).2, .int .i64 (unwO m c wr dt nonce).1]) ∧ Below w.heap.size w w' := by
  have J := Jn.box w 26 #[.int .i64 c, .string wr, .string dt]
  obtain ⟨W0, hW0⟩ : ∃ W, W = w.alloc (.cells #[.int .i64 c, .string wr, .string dt] 26) := ⟨_, rfl⟩
  rw [← hW0] at J
  have K1 := fun wx => hid (sKey m wx)
  have q0 : W0.cell? ⟨w.heap.size, 0, none⟩ = some (.int .i64 c) := J.out.1.cell 0
  have q1 : W0.cell? ⟨w.heap.size, 1, none⟩ = some (.string wr) := J.out.1.cell 1
  have q2 : W0.cell? ⟨w.heap.size, 2, none⟩ = some (.string dt) := J.out.1.cell 2
  by_cases p1 : keyP m
  case neg =>
    have E : Hid (unwO m c wr dt nonce = (1, ⟨#[]⟩)) := if_neg fun q => p1 q.1
    rw [pb_f p1] at K1
    clear p1
    go_enter Try.func42, Try.ntmps42
    go_wp2_with fail
    rw [← hW0]
    clear hW0
    refine (K1 _).out.mono ?_
    rintro e w1 ⟨rfl, hw⟩
    obtain rfl := hw.symm
    go_wp2
    go_ret2
    exact ⟨by rw [E.out]; rfl, J.out.2⟩
  rw [pb_t p1] at K1
  by_cases p2 : 0 ≤ nonce
  case neg =>
    have E : Hid (unwO m c wr dt nonce = (1, ⟨#[]⟩)) := if_neg fun q => p2 q.2.1
    have d2 : decide (nonce < 0) = true := by simp; omega
    clear p1 p2
    go_enter Try.func42, Try.ntmps42
    go_wp2_with fail
    rw [← hW0]
    clear hW0
    refine (K1 _).out.mono ?_
    rintro e w1 ⟨rfl, hw⟩
    obtain rfl := hw.symm
    go_wp2
    go_ret2
    exact ⟨by rw [E.out]; rfl, J.out.2⟩
  have d2 : decide (nonce < 0) = false := by simp; omega
  by_cases p3 : c = 0
  case neg =>
    have E : Hid (unwO m c wr dt nonce = (1, ⟨#[]⟩)) := if_neg fun q => p3 q.2.2.1
    have d3 : (c != 0) = true := by simp; exact p3
    clear p1 p2 p3
    go_enter Try.func42, Try.ntmps42
    go_wp2_with fail
    rw [← hW0]
    clear hW0
    refine (K1 _).out.mono ?_
    rintro e w1 ⟨rfl, hw⟩
    obtain rfl := hw.symm
    go_wp2
    go_ret2
    exact ⟨by rw [E.out]; rfl, J.out.2⟩
  have d3 : (c != 0) = false := by simp; exact p3
  by_cases p4 : wr.size ≤ 300
  case neg =>
    have E : Hid (unwO m c wr dt nonce = (1, ⟨#[]⟩)) := if_neg fun q => p4 q.2.2.2.1
    have d4 : (300 : Int) < (wr.size : Int) := by omega
    clear p1 p2 p3 p4
    go_enter Try.func42, Try.ntmps42
    go_wp2_with fail
    rw [← hW0]
    clear hW0
    refine (K1 _).out.mono ?_
    rintro e w1 ⟨rfl, hw⟩
    obtain rfl := hw.symm
    go_wp2
    go_ret2
    exact ⟨by rw [E.out]; rfl, J.out.2⟩
  have d4 : ¬ (300 : Int) < (wr.size : Int) := by omega
  by_cases p5 : dt.size ≤ 100004
  case neg =>
    have E : Hid (unwO m c wr dt nonce = (1, ⟨#[]⟩)) := if_neg fun q => p5 q.2.2.2.2
    have d5 : (100004 : Int) < (dt.size : Int) := by omega
    clear p1 p2 p3 p4 p5
    go_enter Try.func42, Try.ntmps42
    go_wp2_with fail
    rw [← hW0]
    clear hW0
    refine (K1 _).out.mono ?_
    rintro e w1 ⟨rfl, hw⟩
    obtain rfl := hw.symm
    go_wp2
    go_ret2
    exact ⟨by rw [E.out]; rfl, J.out.2⟩
  have d5 : ¬ (100004 : Int) < (dt.size : Int) := by omega
  have KX := fun wx => hid (sXor wr m nonce p1 p2 h1 (by omega) wx)
  have XZ : (ofL (xrL wr.data.toList m nonce)).size ≤ 300 := by rw [ofL_size, xrL_len]; simp; exact p4
  have E0 : Hid (unwO m c wr dt nonce = match getText (ofL (xrL wr.data.toList m nonce)) 0 with
    | none => (12, ⟨#[]⟩)
    | some (k, _) => if keyP k ∧ ofL (wpL m k nonce) = wr then (0, k) else (12, ⟨#[]⟩)) := if_pos ⟨p1, p2, p3, p4, p5⟩
  obtain ⟨XT, hXT⟩ : ∃ X, X = ofL (xrL wr.data.toList m nonce) := ⟨_, rfl⟩
  rw [← hXT] at KX XZ E0
  clear hXT
  have KG := fun wx => hid (sgetText_all XT 0 (by omega) wx)
  have HP1 := hid p1
  have HP2 := hid p2
  clear p1 p2 p3
  cases hg : getText XT 0 with
  | none =>
    have E : Hid (unwO m c wr dt nonce = (12, ⟨#[]⟩)) := by show _ = _; rw [E0.out, hg]
    rw [hg] at KG
    have KG2 : ∀ wx : World, Hid (Calls Try.prog 54 #[.string XT, .int .i64 0] wx fun e w' => e = .returned (.agg #[.bool false, .string ⟨#[]⟩, .int .i64 0]) ∧ Below wx.heap.size wx w') := KG
    clear hg KG E0
    go_enter Try.func42, Try.ntmps42
    go_wp2_with fail
    rw [← hW0]
    clear hW0
    refine (K1 _).out.mono ?_
    rintro e w1 ⟨rfl, hw⟩
    obtain rfl := hw.symm
    go_wp2_with fail
    refine (KX _).out.mono ?_
    rintro e w1 ⟨rfl, hb1⟩
    replace J := Jn.next hb1 J
    clear hb1 q0 q1 q2
    go_wp2_with fail
    refine (KG2 _).out.mono ?_
    rintro e w2 ⟨rfl, hb2⟩
    replace J := Jn.next hb2 J
    clear hb2
    go_wp2_with fail
    go_quiet (fail)
    go_wp2
    go_ret2
    exact ⟨by rw [E.out]; rfl, below_drewN (J.out.2.alloc J.out.2.size _) _⟩
  | some kq =>
    obtain ⟨k, qn⟩ := kq
    have E1 : Hid (unwO m c wr dt nonce = if keyP k ∧ ofL (wpL m k nonce) = wr then (0, k) else (12, ⟨#[]⟩)) := by show _ = _; rw [E0.out, hg]
    rw [hg] at KG
    have KG2 : ∀ wx : World, Hid (Calls Try.prog 54 #[.string XT, .int .i64 0] wx fun e w' => e = .returned (.agg #[.bool true, .string k, .int .i64 qn]) ∧ Below wx.heap.size wx w') := KG
    clear hg KG E0
    have K2 := fun wx => hid (sKey k wx)
    by_cases p6 : keyP k
    case neg =>
      have E : Hid (unwO m c wr dt nonce = (12, ⟨#[]⟩)) := by show _ = _; rw [E1.out, if_neg fun q => p6 q.1]
      rw [pb_f p6] at K2
      clear E1 p6
      go_enter Try.func42, Try.ntmps42
      go_wp2_with fail
      rw [← hW0]
      clear hW0
      refine (K1 _).out.mono ?_
      rintro e w1 ⟨rfl, hw⟩
      obtain rfl := hw.symm
      go_wp2_with fail
      refine (KX _).out.mono ?_
      rintro e w1 ⟨rfl, hb1⟩
      replace J := Jn.next hb1 J
      clear hb1 q0 q1 q2
      go_wp2_with fail
      refine (KG2 _).out.mono ?_
      rintro e w2 ⟨rfl, hb2⟩
      replace J := Jn.next hb2 J
      clear hb2
      go_wp2_with fail
      go_quiet ((go_at_call 32; exact Calls.quiet_of_same (K2 _).out))
      go_wp2
      go_ret2
      exact ⟨by rw [E.out]; rfl, below_drewN (J.out.2.alloc J.out.2.size _) _⟩
    rw [pb_t p6] at K2
    have KW := fun wx => hid (sWrap m k nonce HP1.out p6 HP2.out h1 wx)
    have EV : Hid (unwO m c wr dt nonce = if ofL (wpL m k nonce) = wr then (0, k) else (12, ⟨#[]⟩)) := by
      show _ = _
      rw [E1.out]
      by_cases q : ofL (wpL m k nonce) = wr
      · rw [if_pos ⟨p6, q⟩, if_pos q]
      · rw [if_neg fun h => q h.2, if_neg q]
    clear E1 p6
    have BN := ba_beqS (ofL (wpL m k nonce)) wr
    generalize ofL (wpL m k nonce) = V at KW EV BN
    by_cases q : V = wr
    · have E : Hid (unwO m c wr dt nonce = (0, k)) := by show _ = _; rw [EV.out, if_pos q]
      have bq : (V.toList == wr.toList) = true := by rw [BN]; exact decide_eq_true q
      clear EV BN q
      go_enter Try.func42, Try.ntmps42
      go_wp2_with fail
      rw [← hW0]
      clear hW0
      refine (K1 _).out.mono ?_
      rintro e w1 ⟨rfl, hw⟩
      obtain rfl := hw.symm
      go_wp2_with fail
      refine (KX _).out.mono ?_
      rintro e w1 ⟨rfl, hb1⟩
      replace J := Jn.next hb1 J
      clear hb1 q0 q1 q2
      go_wp2_with fail
      refine (KG2 _).out.mono ?_
      rintro e w2 ⟨rfl, hb2⟩
      replace J := Jn.next hb2 J
      clear hb2
      have T := Jn.box w2 66 #[.bool true, .string k, .int .i64 qn]
      obtain ⟨W2, hW2⟩ : ∃ W, W = w2.alloc (.cells #[.bool true, .string k, .int .i64 qn] 66) := ⟨_, rfl⟩
      obtain ⟨X2, hX2⟩ : ∃ X, X = w2.heap.size := ⟨_, rfl⟩
      have A : Hid (RowAt W2 X2 66 #[.bool true, .string k, .int .i64 qn]) := by rw [hW2, hX2]; exact T.out.1
      have J2 : Hid (Jn w W2 w.heap.size 26 #[.int .i64 c, .string wr, .string dt]) := by rw [hW2]; exact ⟨J.out.1.alloc _, J.out.2.alloc J.out.2.size _⟩
      clear T J
      go_upto_region 5 with fail
      rw [← hW2, ← hX2]
      clear hW2 hX2
      have a0 : W2.cell? ⟨X2, 0, none⟩ = some (.bool true) := A.out.cell 0
      have a1 : W2.cell? ⟨X2, 1, none⟩ = some (.string k) := A.out.cell 1
      have j1 : W2.cell? ⟨w.heap.size, 1, none⟩ = some (.string wr) := J2.out.1.cell 1
      go_region_held3 (fun wx => wx.cell? ⟨X2, 0, none⟩ = some (.bool true) ∧ wx.cell? ⟨X2, 1, none⟩ = some (.string k) ∧ wx.cell? ⟨w.heap.size, 1, none⟩ = some (.string wr))
        (first | with_reducible exact ⟨a0, a1, j1⟩ | exact ⟨A.out.cell 0, A.out.cell 1, J2.out.1.cell 1⟩)
        (first
          | (go_at_call 32; refine (K2 _).out.mono ?_; rintro e w3 ⟨rfl, hw⟩; obtain rfl := hw.symm)
          | (go_at_call 33; refine (KW _).out.mono ?_; rintro e w3 ⟨rfl, hb3⟩; (first | replace A := hid (A.out.below hb3 A.out.lt) | replace A := hid (A.out.drew.below hb3 A.out.lt)); (first | replace J2 := Jn.next hb3 J2 | replace J2 := Jn.next hb3 (Jn.drew J2)); replace a0 := A.out.cell 0; replace a1 := A.out.cell 1; replace j1 := J2.out.1.cell 1; clear hb3))
      have y1 : w3.cell? ⟨X2, 1, none⟩ = some (.string k) := A.out.cell 1
      clear a0 a1 j1
      go_wp2
      go_ret2
      exact ⟨by rw [E.out]; rfl, J2.out.2⟩
    · have E : Hid (unwO m c wr dt nonce = (12, ⟨#[]⟩)) := by show _ = _; rw [EV.out, if_neg q]
      have bq : (V.toList == wr.toList) = false := by rw [BN]; exact decide_eq_false q
      clear EV BN q
      go_enter Try.func42, Try.ntmps42
      go_wp2_with fail
      rw [← hW0]
      clear hW0
      refine (K1 _).out.mono ?_
      rintro e w1 ⟨rfl, hw⟩
      obtain rfl := hw.symm
      go_wp2_with fail
      refine (KX _).out.mono ?_
      rintro e w1 ⟨rfl, hb1⟩
      replace J := Jn.next hb1 J
      clear hb1 q0 q1 q2
      go_wp2_with fail
      refine (KG2 _).out.mono ?_
      rintro e w2 ⟨rfl, hb2⟩
      replace J := Jn.next hb2 J
      clear hb2
      have T := Jn.box w2 66 #[.bool true, .string k, .int .i64 qn]
      obtain ⟨W2, hW2⟩ : ∃ W, W = w2.alloc (.cells #[.bool true, .string k, .int .i64 qn] 66) := ⟨_, rfl⟩
      obtain ⟨X2, hX2⟩ : ∃ X, X = w2.heap.size := ⟨_, rfl⟩
      have A : Hid (RowAt W2 X2 66 #[.bool true, .string k, .int .i64 qn]) := by rw [hW2, hX2]; exact T.out.1
      have J2 : Hid (Jn w W2 w.heap.size 26 #[.int .i64 c, .string wr, .string dt]) := by rw [hW2]; exact ⟨J.out.1.alloc _, J.out.2.alloc J.out.2.size _⟩
      clear T J
      go_upto_region 5 with fail
      rw [← hW2, ← hX2]
      clear hW2 hX2
      have a0 : W2.cell? ⟨X2, 0, none⟩ = some (.bool true) := A.out.cell 0
      have a1 : W2.cell? ⟨X2, 1, none⟩ = some (.string k) := A.out.cell 1
      have j1 : W2.cell? ⟨w.heap.size, 1, none⟩ = some (.string wr) := J2.out.1.cell 1
      go_region_held3 (fun wx => wx.cell? ⟨X2, 0, none⟩ = some (.bool true) ∧ wx.cell? ⟨X2, 1, none⟩ = some (.string k) ∧ wx.cell? ⟨w.heap.size, 1, none⟩ = some (.string wr))
        (first | with_reducible exact ⟨a0, a1, j1⟩ | exact ⟨A.out.cell 0, A.out.cell 1, J2.out.1.cell 1⟩)
        (first
          | (go_at_call 32; refine (K2 _).out.mono ?_; rintro e w3 ⟨rfl, hw⟩; obtain rfl := hw.symm)
          | (go_at_call 33; refine (KW _).out.mono ?_; rintro e w3 ⟨rfl, hb3⟩; (first | replace A := hid (A.out.below hb3 A.out.lt) | replace A := hid (A.out.drew.below hb3 A.out.lt)); (first | replace J2 := Jn.next hb3 J2 | replace J2 := Jn.next hb3 (Jn.drew J2)); replace a0 := A.out.cell 0; replace a1 := A.out.cell 1; replace j1 := J2.out.1.cell 1; clear hb3))
      clear a0 a1 j1
      try (rw [bq]; simp only [Bool.not_false])
      go_wp2
      go_ret2
      exact ⟨by rw [E.out]; rfl, J2.out.2⟩
end Go.Proofs.Ytccokbfbkeknnaa
