import Derived.Test.YtmjolkagkeonfaaDoorGP
import Derived.Deep.RegionLaw
namespace Go.Proofs.YtmjolkagkeonfaaDoor
open Go.RowKit
set_option linter.unusedVariables false
/-! The program's Judge. -/
set_option maxRecDepth 20000 in
set_option maxHeartbeats 1000000 in
theorem iHsP0 (s t : ByteArray) (ht : t.size ≤ 1048576) (w : World) :
    Calls Tryd.prog 94 #[.string s, .string t] w fun e w' => e = .returned (.bool (pb (bgP s t))) ∧ w' = w := by
  have B := hid (bgP_iff s t)
  by_cases h : t.size ≤ s.size
  · have i0 : ((t.size : Int) ≤ (s.size : Int)) := by omega
    have i1 : (0 : Int) ≤ (t.size : Int) := by omega
    by_cases hb : s.extract 0 t.size = t
    · have E : Hid (pb (bgP s t) = true) := pb_t (B.out.2 ⟨h, hb⟩)
      have b0 : ((s.extract 0 t.size).toList == t.toList) = true := (eqL _ _).trans (decide_eq_true hb)
      generalize s.extract 0 t.size = X at b0
      go_enter Tryd.func94, Tryd.ntmps94
      go_wp2
      go_ret
      exact ⟨by rw [E.out]; rfl, rfl⟩
    · have E : Hid (pb (bgP s t) = false) := pb_f fun q => hb (B.out.1 q).2
      have b0 : ((s.extract 0 t.size).toList == t.toList) = false := (eqL _ _).trans (decide_eq_false hb)
      clear hb
      go_enter Tryd.func94, Tryd.ntmps94
      go_wp2
      go_ret
      exact ⟨by rw [E.out]; rfl, rfl⟩
  · have E : Hid (pb (bgP s t) = false) := pb_f fun q => h (B.out.1 q).1
    have i0 : ¬ t.size ≤ s.size := h
    go_enter Tryd.func94, Tryd.ntmps94
    go_wp2
    go_ret
    exact ⟨by rw [E.out]; rfl, rfl⟩
set_option maxRecDepth 20000 in
theorem iHsP (s t : ByteArray) (ht : t.size ≤ 1048576) (w : World) :
    Calls Tryd.prog 93 #[.string s, .string t] w fun e w' => e = .returned (.bool (pb (bgP s t))) ∧ w' = w := by
  go_enter Tryd.func93, Tryd.ntmps93
  go_wp2_with fail
  refine (iHsP0 s t ht _).mono ?_
  rintro e w1 ⟨rfl, hw⟩
  obtain rfl := hw.symm
  go_wp2
  go_ret
  exact ⟨rfl, rfl⟩
set_option maxRecDepth 20000 in
set_option maxHeartbeats 2000000 in
theorem iHold1 (tx : ByteArray) (ht : tx.size ≤ 1048576) (q : Aq) (w : World) :
    Calls Tryd.prog 92 #[.agg #[.string tx], .agg #[.string q.wo, .string q.wa, .string q.wi, .string q.fr, .int .i64 q.tm]] w fun e w' => e = .returned (.bool (pb (bgP q.wi tx))) ∧ Below w.heap.size w w' := by
  have K := fun wx => hid (iHsP q.wi tx ht wx)
  obtain ⟨bv, hbv⟩ : ∃ b, b = pb (bgP q.wi tx) := ⟨_, rfl⟩
  rw [← hbv] at K ⊢
  clear hbv
  go_enter Tryd.func92, Tryd.ntmps92
  go_wp2_with fail
  refine (K _).out.mono ?_
  rintro e w1 ⟨rfl, hw⟩
  obtain rfl := hw.symm
  go_wp2
  go_ret
  exact ⟨rfl, ((Below.refl _ _).alloc (Nat.le_refl _) _).alloc (by rw [size_al]; omega) _⟩
set_option maxRecDepth 20000 in
set_option maxHeartbeats 2000000 in
theorem iHold2 (tm : Int) (q : Aq) (w : World) :
    Calls Tryd.prog 96 #[.agg #[.int .i64 tm], .agg #[.string q.wo, .string q.wa, .string q.wi, .string q.fr, .int .i64 q.tm]] w fun e w' => e = .returned (.bool (decide (q.tm < tm))) ∧ Below w.heap.size w w' := by
  go_enter Tryd.func96, Tryd.ntmps96
  go_wp2
  go_ret
  exact ⟨rfl, ((Below.refl _ _).alloc (Nat.le_refl _) _).alloc (by rw [size_al]; omega) _⟩
set_option maxRecDepth 20000 in
set_option maxHeartbeats 2000000 in
theorem iHold3 (tm : Int) (q : Aq) (w : World) :
    Calls Tryd.prog 97 #[.agg #[.int .i64 tm], .agg #[.string q.wo, .string q.wa, .string q.wi, .string q.fr, .int .i64 q.tm]] w fun e w' => e = .returned (.bool (decide (tm < q.tm))) ∧ Below w.heap.size w w' := by
  go_enter Tryd.func97, Tryd.ntmps97
  go_wp2
  go_ret
  exact ⟨rfl, ((Below.refl _ _).alloc (Nat.le_refl _) _).alloc (by rw [size_al]; omega) _⟩
set_option maxRecDepth 20000 in
set_option maxHeartbeats 2000000 in
theorem iHold4 (tx : ByteArray) (ht : tx.size ≤ 1048576) (q : Aq) (hq : AqB q) (w : World) :
    Calls Tryd.prog 98 #[.agg #[.string tx], .agg #[.string q.wo, .string q.wa, .string q.wi, .string q.fr, .int .i64 q.tm]] w fun e w' => e = .returned (.bool (globV tx q.fr)) ∧ Below w.heap.size w w' := by
  have K := fun wx => hid (iGlob tx q.fr (by omega) (by have := hq.fr; omega) wx)
  obtain ⟨bv, hbv⟩ : ∃ b, b = globV tx q.fr := ⟨_, rfl⟩
  rw [← hbv] at K ⊢
  clear hbv
  have B : Hid (∀ o p n, Below w.heap.size w (((w.alloc o).alloc p).drewN n)) := fun o p n => below_dr (((Below.refl _ _).alloc (Nat.le_refl _) _).alloc (by rw [size_al]; omega) _) n
  go_enter Tryd.func98, Tryd.ntmps98
  go_wp2_with fail
  refine (K _).out.mono ?_
  rintro e w1 ⟨rfl, n, hw⟩
  obtain rfl := hw.symm
  go_wp2
  go_ret
  exact ⟨rfl, B.out _ _ _⟩
theorem hd1 (tx : ByteArray) (w : World) : (Go.method 229 74 (.agg #[.string tx]) "loop.example/g00020/impl.holds").run Tryd.prog w = .ok (92, (.agg #[.string tx])) w := by kernel_rfl
theorem hd2 (tm : Int) (w : World) : (Go.method 229 78 (.agg #[.int .i64 tm]) "loop.example/g00020/impl.holds").run Tryd.prog w = .ok (96, (.agg #[.int .i64 tm])) w := by kernel_rfl
theorem hd3 (tm : Int) (w : World) : (Go.method 229 79 (.agg #[.int .i64 tm]) "loop.example/g00020/impl.holds").run Tryd.prog w = .ok (97, (.agg #[.int .i64 tm])) w := by kernel_rfl
theorem hd4 (tx : ByteArray) (w : World) : (Go.method 229 80 (.agg #[.string tx]) "loop.example/g00020/impl.holds").run Tryd.prog w = .ok (98, (.agg #[.string tx])) w := by kernel_rfl
set_option maxRecDepth 20000 in
set_option maxHeartbeats 2000000 in
theorem iSm1 (p t : ByteArray) (hp : p.size ≤ 1048576) (ht : t.size ≤ 1048576) (b : Nat) (w : World) (h : RowAt w b 9 #[.string t]) :
    Calls Tryd.prog 36 #[.string p, .pointer (some ⟨b, 0, none⟩)] w fun e w' => e = .returned (.bool (globV p t)) ∧ Below w.heap.size w w' := by
  have K := hid (iGlob p t (by omega) (by omega) w)
  have c0 := h.cell 0
  obtain ⟨bv, hbv⟩ : ∃ b, b = globV p t := ⟨_, rfl⟩
  rw [← hbv] at K ⊢
  have B : Hid (∀ n, Below w.heap.size w (w.drewN n)) := fun n => below_dr (Below.refl _ _) n
  clear hbv h
  go_enter Tryd.func36, Tryd.ntmps36
  go_wp2_with fail
  refine K.out.mono ?_
  rintro e w1 ⟨rfl, n, hw⟩
  obtain rfl := hw.symm
  clear hw K
  go_wp2
  go_ret
  exact ⟨rfl, B.out _⟩
set_option maxRecDepth 20000 in
set_option maxHeartbeats 2000000 in
theorem iIdxF (a : Option Addr) (n cap : Nat) (ts : Nat → ByteArray) (hn : n ≤ 1048576) (hs : ∀ i, i < n → (ts i).size ≤ 1048576) (t : ByteArray) (ht : t.size ≤ 1048576) (b : Nat) (w : World) (h : Strs w a n cap ts) (hr : RowAt w b 9 #[.string t]) :
    Calls Tryd.prog 42 #[.slice a n cap, .func (.func 36) #[] #[.pointer (some ⟨b, 0, none⟩)]] w fun e w' => (∃ z : Int, e = .returned (.int .i64 z) ∧ (0 ≤ z ↔ smP n ts t)) ∧ Below w.heap.size w w' := by
  have HH := hid h
  have HR := hid hr
  have HS := hid hs
  clear h hr hs
  go_enter Tryd.func42, Tryd.ntmps42
  go_wp2_with fail
  go_loopw [8] (fun q wr => ∃ k : Nat, k ≤ n ∧ q = .int .i64 (k : Int) ∧ (∀ i, i < k → globV (ts i) t = false) ∧ Below w.heap.size w wr) (fun q _ => n - (intOf q).toNat)
  case atStart => exact ⟨0, Nat.zero_le _, rfl, fun i hi => absurd hi (by omega), Below.refl _ _⟩
  case round =>
    obtain ⟨k, hk, rfl, hno, hB⟩ := hrel
    have NO := hid hno
    have HB := hid hB
    clear hno hB
    by_cases hlt : k < n
    · have d1 : (k : Int) < (n : Int) := by omega
      have k0 : (0 : Int) ≤ (k : Int) := by omega
      rcases (HH.out.below HB.out).2 with q0 | ⟨b9, off, rfl, hbl, hc⟩
      · omega
      have y0 := hc k hlt
      have KK := hid (iSm1 (ts k) t (HS.out k hlt) ht b wr (HR.out.below HB.out HR.out.lt))
      obtain ⟨x, hx⟩ : ∃ x, x = ts k := ⟨_, rfl⟩
      rw [← hx] at y0 KK
      obtain ⟨T, hT⟩ : ∃ T, T = globV x t := ⟨_, rfl⟩
      have HT : Hid (T = globV (ts k) t) := by rw [← hx]; exact hT
      rw [← hT] at KK
      clear hc hT hx
      go_wp2_with fail
      refine KK.out.mono ?_
      rintro e w2 ⟨rfl, hb2⟩
      have B2 := hid (HB.out.trans (hb2.mono HB.out.size))
      clear hb2 HB KK y0
      cases T with
      | true =>
        have Y : Hid (0 ≤ (k : Int) ↔ smP n ts t) := ⟨fun _ => ⟨k, hlt, HT.out.symm⟩, fun _ => by omega⟩
        go_wp2
        go_ret
        exact ⟨⟨_, rfl, Y.out⟩, B2.out⟩
      | false =>
        have N2 : Hid (∀ i, i < k + 1 → globV (ts i) t = false) := fun i hi => by
          by_cases e : i = k
          · subst e; exact HT.out.symm
          · exact NO.out i (by omega)
        go_wp2
        go_roundw
        case rel => exact ⟨k + 1, by omega, by go_num, N2.out, B2.out⟩
        case measure => simp [intOf]; omega
    · have d1 : ¬ (k : Int) < (n : Int) := by omega
      have Y : Hid (0 ≤ (-1 : Int) ↔ smP n ts t) := ⟨fun z => absurd z (by decide), fun ⟨i, hi, e⟩ => by rw [NO.out i (by omega)] at e; cases e⟩
      go_wp2
      go_ret
      exact ⟨⟨_, rfl, Y.out⟩, HB.out⟩
set_option maxRecDepth 20000 in
set_option maxHeartbeats 2000000 in
theorem iContF (a : Option Addr) (n cap : Nat) (ts : Nat → ByteArray) (hn : n ≤ 1048576) (hs : ∀ i, i < n → (ts i).size ≤ 1048576) (t : ByteArray) (ht : t.size ≤ 1048576) (b : Nat) (w : World) (h : Strs w a n cap ts) (hr : RowAt w b 9 #[.string t]) :
    Calls Tryd.prog 35 #[.slice a n cap, .func (.func 36) #[] #[.pointer (some ⟨b, 0, none⟩)]] w fun e w' => e = .returned (.bool (pb (smP n ts t))) ∧ Below w.heap.size w w' := by
  have K := hid (iIdxF a n cap ts hn hs t ht b w h hr)
  clear h hr hs
  go_enter Tryd.func35, Tryd.ntmps35
  go_wp2_with fail
  refine K.out.mono ?_
  rintro e w2 ⟨⟨z, rfl, hz⟩, hb⟩
  have HZ := hid hz
  have HB := hid hb
  clear hz hb K
  by_cases q : smP n ts t
  · have z0 : 0 ≤ z := HZ.out.2 q
    have E : Hid (pb (smP n ts t) = true) := pb_t q
    clear q
    go_wp2
    go_ret
    exact ⟨by rw [E.out]; simp, HB.out⟩
  · have z0 : ¬ 0 ≤ z := fun zz => q (HZ.out.1 zz)
    have zb : decide (0 ≤ z) = false := decide_eq_false z0
    have E : Hid (pb (smP n ts t) = false) := pb_f q
    clear q z0
    go_wp2
    go_ret
    exact ⟨by rw [E.out]; first | rfl | simp [zb], HB.out⟩
set_option maxRecDepth 20000 in
set_option maxHeartbeats 2000000 in
theorem iSomeF (a : Option Addr) (n cap : Nat) (ts : Nat → ByteArray) (hn : n ≤ 1048576) (hs : ∀ i, i < n → (ts i).size ≤ 1048576) (t : ByteArray) (ht : t.size ≤ 1048576) (w : World) (h : Strs w a n cap ts) :
    Calls Tryd.prog 23 #[.slice a n cap, .string t] w fun e w' => e = .returned (.bool (pb (smP n ts t))) ∧ Below w.heap.size w w' := by
  have hmf : ∀ (fn : Fn) (first cap : Array Value) (w : World), (Instr.makeFunc fn first cap).run Tryd.prog w = .ok (.func fn first cap) w := fun _ _ _ _ => rfl
  obtain ⟨W1, hW1⟩ : ∃ W, W = w.alloc (.cells #[.string t] 9) := ⟨_, rfl⟩
  have B1 : Hid (Below w.heap.size w W1) := by rw [hW1]; exact (Below.refl _ _).alloc (Nat.le_refl _) _
  have R1 : Hid (RowAt W1 w.heap.size 9 #[.string t]) := by rw [hW1]; exact RowAt.new _ _ _
  have K := hid (iContF a n cap ts hn hs t ht w.heap.size W1 (h.below B1.out) R1.out)
  obtain ⟨bv, hbv⟩ : ∃ b, b = pb (smP n ts t) := ⟨_, rfl⟩
  rw [← hbv] at K ⊢
  clear hbv h hs
  go_enter Tryd.func23, Tryd.ntmps23
  go_wp2_with fail
  rw [← hW1]
  clear hW1
  refine K.out.mono ?_
  rintro e w2 ⟨rfl, hb⟩
  have B2 := hid (B1.out.trans (hb.mono B1.out.size))
  clear hb K
  go_wp2
  go_ret
  exact ⟨rfl, B2.out⟩
end Go.Proofs.YtmjolkagkeonfaaDoor
