import Derived.Test.YtokjfffcciddhaaGreatDoorLawBk
import Derived.Test.YtokjfffcciddhaaGreatDoorPb
import Derived.BigQuiet
namespace Go.Proofs.YtokjfffcciddhaaGreatDoor
open Go.RowKit
/-! When a bucket is right. -/
def tmB (t : Int) : Prop := 0 ≤ t ∧ t ≤ 4102444800
def kyB (k : ByteArray) : Prop := 1 ≤ k.size ∧ k.size ≤ 200
def rlP (r : Lr) : Prop := 1 ≤ r.kd ∧ r.kd ≤ 3 ∧ r.px.size ≤ 200 ∧ tmB r.ag
def rlsP (n : Nat) (o : Nat → Lr) : Prop := (∀ k, k < n → rlP (o k)) ∧ n ≤ 20
def byN (o : Nat → Ve) : Nat → Nat
  | 0 => 0
  | k + 1 => byN o k + (o k).dt.size
theorem byN_mono (o : Nat → Ve) {j k : Nat} (h : j ≤ k) : byN o j ≤ byN o k := by
  induction k with
  | zero => rw [Nat.le_zero.mp h]; exact Nat.le_refl _
  | succ k ih => rcases Nat.lt_or_ge j (k + 1) with h1 | h1
                 · have := ih (by omega); show _ ≤ byN o k + _; omega
                 · rw [show j = k + 1 by omega]; exact Nat.le_refl _
theorem byN_sz (o : Nat → Ve) : ∀ m, byN o m ≤ szVe o m
  | 0 => Nat.le_refl _
  | m + 1 => by have := byN_sz o m; show byN o m + _ ≤ szVe o m + _ + _; omega
def veP (v : Ve) : Prop := kyB v.ky ∧ v.dt.size ≤ 100000 ∧ tmB v.tm ∧ tmB v.un ∧ (v.mr = true → v.dt = ⟨#[]⟩ ∧ v.un = 0 ∧ v.ho = false)
def lastI (o : Nat → Ve) : Nat → Int
  | 0 => 0
  | k + 1 => (o k).id
def okV (ni : Int) (o : Nat → Ve) (i : Nat) : Prop := veP (o i) ∧ lastI o i < (o i).id ∧ (o i).id < ni
def vsP (ni : Int) (m : Nat) (o : Nat → Ve) : Prop := m ≤ 300 ∧ ∀ i, i < m → okV ni o i
def qtP (q : Int) : Prop := 0 ≤ q ∧ q ≤ 400000
def wiP (q b : Int) : Prop := q = 0 ∨ b ≤ q
def bkP (ni q : Int) (n0 : Nat) (o0 : Nat → Lr) (m : Nat) (o : Nat → Ve) : Prop :=
  (1 ≤ ni ∧ ni ≤ 1099511627776) ∧ qtP q ∧ rlsP n0 o0 ∧ vsP ni m o ∧ wiP q (byN o m : Nat)
noncomputable def bkV (ni q : Int) (n0 : Nat) (o0 : Nat → Lr) (m : Nat) (o : Nat → Ve) : Int := if pb (bkP ni q n0 o0 m o) then 0 else 1
theorem bkV_ok {ni q : Int} {n0 : Nat} {o0 : Nat → Lr} {m : Nat} {o : Nat → Ve} (h : bkP ni q n0 o0 m o) : bkV ni q n0 o0 m o = 0 := by unfold bkV; rw [pb_t h]; rfl
theorem bkV_no {ni q : Int} {n0 : Nat} {o0 : Nat → Lr} {m : Nat} {o : Nat → Ve} (h : ¬ bkP ni q n0 o0 m o) : bkV ni q n0 o0 m o = 1 := by unfold bkV; rw [pb_f h]; rfl
theorem txt_neB {t : ByteArray} (h : t ≠ ⟨#[]⟩) : t.toList.isEmpty = false := by
  rw [show t.toList = t.data.toList from ByteArray.toList_eq ..]
  cases e : t.data.toList with
  | nil => exact absurd (by obtain ⟨⟨l⟩⟩ := t; simp at e; subst e; rfl) h
  | cons x l => rfl
theorem all_next {P : Nat → Prop} {k : Nat} (h : ∀ i, i < k → P i) (hk : P k) : ∀ i, i < k + 1 → P i := fun i hi => by
  by_cases e : i = k
  · subst e; exact hk
  · exact h i (by omega)
def lgP (s : ByteArray) : Prop := ¬ s.size ≤ 100000
theorem lgP_no {s : ByteArray} (h : s.size ≤ 100000) : ¬ lgP s := fun hh => hh h
theorem bdNB {n : Nat} {w w' : World} (h : Below n w w') (k : Nat) : Below n w (w'.drewN k) := ⟨h.1, h.2, h.3, h.4, h.5⟩
theorem RowAt.nxB {X w1 : World} {b : Nat} {t : TypeId} {c : Array Value} (hb : Below X.heap.size X w1) (h : RowAt X b t c) : RowAt w1 b t c := h.below hb h.lt
end Go.Proofs.YtokjfffcciddhaaGreatDoor
namespace Go.Proofs.YtokjfffcciddhaaGreatDoor
open Go.RowKit
/-! The specification: BucketBytes, BucketFault (by genbk.py). -/
set_option maxRecDepth 20000 in
theorem sTimeB (t : Int) (w : World) :
    Calls Tryz.prog 36 #[.int .i64 t] w fun e w' => e = .returned (.bool (pb (tmB t))) ∧ w' = w := by
  by_cases h1 : 0 ≤ t
  · by_cases h2 : t ≤ 4102444800
    · have E : Hid (pb (tmB t) = true) := pb_t ⟨h1, h2⟩
      go_enter Tryz.func36, Tryz.ntmps36
      go_wp2
      go_ret
      exact ⟨by rw [E.out]; rfl, rfl⟩
    · have E : Hid (pb (tmB t) = false) := pb_f fun h => h2 h.2
      go_enter Tryz.func36, Tryz.ntmps36
      go_wp2
      go_ret
      exact ⟨by rw [E.out]; rfl, rfl⟩
  · have E : Hid (pb (tmB t) = false) := pb_f fun h => h1 h.1
    go_enter Tryz.func36, Tryz.ntmps36
    go_wp2
    go_ret
    exact ⟨by rw [E.out]; rfl, rfl⟩
set_option maxRecDepth 20000 in
theorem sKeyB (k : ByteArray) (hk : k.size ≤ 1048576) (w : World) :
    Calls Tryz.prog 35 #[.string k] w fun e w' => e = .returned (.bool (pb (kyB k))) ∧ w' = w := by
  by_cases h1 : 1 ≤ k.size
  · have dh1 : (1 : Int) ≤ (k.size : Int) := by omega
    by_cases h2 : k.size ≤ 200
    · have dh2 : (k.size : Int) ≤ 200 := by omega
      have E : Hid (pb (kyB k) = true) := pb_t ⟨h1, h2⟩
      go_enter Tryz.func35, Tryz.ntmps35
      go_wp2
      go_ret
      exact ⟨by rw [E.out]; rfl, rfl⟩
    · have dh2 : ¬ (k.size : Int) ≤ 200 := by omega
      have E : Hid (pb (kyB k) = false) := pb_f fun h => h2 h.2
      go_enter Tryz.func35, Tryz.ntmps35
      go_wp2
      go_ret
      exact ⟨by rw [E.out]; rfl, rfl⟩
  · have dh1 : ¬ (1 : Int) ≤ (k.size : Int) := by omega
    have E : Hid (pb (kyB k) = false) := pb_f fun h => h1 h.1
    go_enter Tryz.func35, Tryz.ntmps35
    go_wp2
    go_ret
    exact ⟨by rw [E.out]; rfl, rfl⟩
set_option maxRecDepth 20000 in
set_option maxHeartbeats 2000000 in
theorem sRules (a : Option Addr) (n cap : Nat) (o : Nat → Lr) (hn : n ≤ 1048576) (hs : ∀ k, k < n → (o k).px.size ≤ 1048576) (w : World) (h : Lrs w a n cap o) :
    Calls Tryz.prog 33 #[.slice a n cap] w fun e w' => e = .returned (.bool (pb (rlsP n o))) ∧ w' = w := by
  have HH := hid h
  have HS := hid hs
  clear h hs
  obtain ⟨W9, hW9⟩ : ∃ W : World, W = w := ⟨_, rfl⟩
  rw [← hW9]
  have HW9 := hid hW9
  clear hW9
  go_enter Tryz.func33, Tryz.ntmps33
  go_wp2_with fail
  go_loopw [3] (fun v wr => ∃ k : Nat, k ≤ n ∧ v = .int .i64 (k : Int) ∧ (∀ i, i < k → rlP (o i)) ∧ wr = W9) (fun v _ => n - (intOf v).toNat)
  case atStart => exact ⟨0, Nat.zero_le _, rfl, fun i hi => absurd hi (Nat.not_lt_zero _), rfl⟩
  case round =>
    obtain ⟨k, hk, rfl, hr, hwr⟩ := hrel
    have HR := hid hr
    have HWR := hid hwr
    clear hr hwr
    by_cases hlt : k < n
    · have d3 : (k : Int) < (n : Int) := by omega
      have k0 : (0 : Int) ≤ (k : Int) := by omega
      have HL : Lrs wr a n cap o := by rw [HWR.out, HW9.out]; exact HH.out
      rcases HL.2 with h00 | ⟨b, off, rfl, hbl, hc⟩
      · omega
      obtain ⟨x0, x1, x2⟩ := hc k hlt
      have s1 := HS.out k hlt
      have FA : Hid (¬ rlP (o k) → pb (rlsP n o) = false) := fun hh => pb_f fun hi => hh (hi.1 k hlt)
      have TR : Hid (rlP (o k) → ∀ i, i < k + 1 → rlP (o i)) := fun hh => all_next HR.out hh
      clear hc HL
      generalize o k = T at x0 x1 x2 s1 FA TR
      obtain ⟨kd, px, ag⟩ := T
      dsimp only at x0 x1 x2 s1
      have K := fun w => hid (sTimeB ag w)
      by_cases h1 : 1 ≤ kd
      · by_cases h2 : kd ≤ 3
        · by_cases h3 : px.size ≤ 200
          · have dh3 : (px.size : Int) ≤ 200 := by omega
            by_cases h4 : tmB ag
            · rw [pb_t h4] at K
              have N : Hid (∀ i, i < k + 1 → rlP (o i)) := TR.out ⟨h1, h2, h3, h4⟩
              clear FA TR
              go_wp2_with fail
              refine (K _).out.mono ?_
              rintro e w1 ⟨rfl, hw1⟩
              obtain rfl := hw1.symm
              go_wp2
              go_roundw
              case rel => exact ⟨k + 1, by omega, by go_num, N.out, HWR.out⟩
              case measure => simp [intOf]; omega
            · rw [pb_f h4] at K
              have N : Hid (pb (rlsP n o) = false) := FA.out fun h => h4 h.2.2.2
              clear FA TR
              go_wp2_with fail
              refine (K _).out.mono ?_
              rintro e w1 ⟨rfl, hw1⟩
              obtain rfl := hw1.symm
              go_wp2
              go_ret
              exact ⟨by rw [N.out]; rfl, HWR.out⟩
          · have dh3 : ¬ (px.size : Int) ≤ 200 := by omega
            have N : Hid (pb (rlsP n o) = false) := FA.out fun h => h3 h.2.2.1
            clear FA TR
            go_wp2
            go_ret
            exact ⟨by rw [N.out]; rfl, HWR.out⟩
        · have N : Hid (pb (rlsP n o) = false) := FA.out fun h => h2 h.2.1
          clear FA TR
          go_wp2
          go_ret
          exact ⟨by rw [N.out]; rfl, HWR.out⟩
      · have N : Hid (pb (rlsP n o) = false) := FA.out fun h => h1 h.1
        clear FA TR
        go_wp2
        go_ret
        exact ⟨by rw [N.out]; rfl, HWR.out⟩
    · have d3 : ¬ (k : Int) < (n : Int) := by omega
      have hkn : k = n := by omega
      subst hkn
      by_cases h20 : k ≤ 20
      · have d4 : (k : Int) ≤ 20 := by omega
        have N : Hid (pb (rlsP k o) = true) := pb_t ⟨HR.out, h20⟩
        go_wp2
        go_ret
        exact ⟨by rw [N.out]; rfl, HWR.out⟩
      · have d4 : ¬ (k : Int) ≤ 20 := by omega
        have N : Hid (pb (rlsP k o) = false) := pb_f fun h => h20 h.2
        go_wp2
        go_ret
        exact ⟨by rw [N.out]; rfl, HWR.out⟩
set_option maxRecDepth 20000 in
set_option maxHeartbeats 2000000 in
theorem sBytes (ni : Int) (kp : Bool) (q : Int) (a0 : Option Addr) (n0 c0 : Nat) (a : Option Addr) (m cap : Nat) (o : Nat → Ve) (hm : m ≤ 1048576) (hs : byN o m ≤ 1073741824) (w : World) (h : Ves w a m cap o) :
    Calls Tryz.prog 34 #[.agg #[.int .i64 ni, .bool kp, .int .i64 q, .slice a0 n0 c0, .slice a m cap]] w fun e w' => e = .returned (.int .i64 (byN o m : Nat)) ∧ Below w.heap.size w w' := by
  obtain ⟨W0, hW0⟩ : ∃ W, W = w.alloc (.cells #[.int .i64 ni, .bool kp, .int .i64 q, .slice a0 n0 c0, .slice a m cap] 44) := ⟨_, rfl⟩
  have A0 : Hid (RowAt W0 w.heap.size 44 #[.int .i64 ni, .bool kp, .int .i64 q, .slice a0 n0 c0, .slice a m cap]) := by rw [hW0]; exact RowAt.new _ _ _
  have B0 : Hid (Below w.heap.size w W0) := by rw [hW0]; exact balLr (Below.refl _ _) _
  have HH := hid (h.below B0.out)
  have HS := hid hs
  have x4 := A0.out.cell 4
  have HW0 := hid hW0
  clear h hs hW0
  go_enter Tryz.func34, Tryz.ntmps34
  go_wp2_with fail
  rw [← HW0.out]
  go_loopw [3, 4] (fun v q wr => ∃ k : Nat, k ≤ m ∧ v = .int .i64 (byN o k : Nat) ∧ q = .int .i64 (k : Int) ∧ wr = W0) (fun _ q _ => m - (intOf q).toNat)
  case atStart => exact ⟨0, Nat.zero_le _, rfl, rfl, rfl⟩
  case round =>
    obtain ⟨k, hk, rfl, rfl, hwr⟩ := hrel
    obtain rfl := hwr.symm
    clear hwr
    by_cases hlt : k < m
    · have d3 : (k : Int) < (m : Int) := by omega
      have k0 : (0 : Int) ≤ (k : Int) := by omega
      rcases HH.out.2 with h00 | ⟨b, off, rfl, hbl, hc⟩
      · omega
      obtain ⟨-, -, -, x3, -, -, -⟩ := hc k hlt
      have hkm := byN_mono o (show k + 1 ≤ m by omega)
      have hN : byN o k + (o k).dt.size ≤ 1073741824 := Nat.le_trans hkm HS.out
      have ST : Hid (byN o (k + 1) = byN o k + (o k).dt.size) := rfl
      generalize (o k).dt = D at x3 hN ST
      generalize byN o k = B at hN ST ⊢
      have hw : IntKind.i64.wrap ((B : Int) + (D.size : Int)) = ((B + D.size : Nat) : Int) := by simp [IntKind.wrap, IntKind.bits, IntKind.signed]; omega
      clear hc hkm
      go_wp2
      go_roundw
      case rel => exact ⟨k + 1, by omega, by rw [ST.out]; rfl, by go_num, trivial⟩
      case measure => simp [intOf]; omega
    · have d3 : ¬ (k : Int) < (m : Int) := by omega
      have hkm : k = m := by omega
      subst hkm
      go_wp2
      go_ret
      exact ⟨rfl, B0.out⟩
end Go.Proofs.YtokjfffcciddhaaGreatDoor
