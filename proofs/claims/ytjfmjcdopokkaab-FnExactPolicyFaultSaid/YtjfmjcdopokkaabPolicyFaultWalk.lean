import Derived.Test.YtjfmjcdopokkaabIPol6
import Derived.Test.YtjfmjcdopokkaabSPol2
namespace Go.Proofs.Ytjfmjcdopokkaab
open Go.RowKit
/-! FnExactPolicyFault. -/
set_option maxRecDepth 20000 in
set_option maxHeartbeats 4000000 in
theorem iPolF (a : Option Addr) (m cap : Nat) (R : Nat → St) (hm : m ≤ 1048576) (hs : ∀ k, k < m → StB (R k) 1048576) (w : World) (h : Sts w a m cap R) :
    Calls Try.prog 7 #[.slice a m cap] w fun e w' => e = .returned (.int .i64 (plV m R)) ∧ Below w.heap.size w w' := by
  have hmf : ∀ (fn : Fn) (first cap : Array Value) (w : World), (Instr.makeFunc fn first cap).run Try.prog w = .ok (.func fn first cap) w := fun _ _ _ _ => rfl
  obtain ⟨W0, hW0⟩ : ∃ W, W = w.alloc (.cells #[.slice a m cap] 25) := ⟨_, rfl⟩
  have B0 : Hid (Below w.heap.size w W0) := by rw [hW0]; exact balCn (Below.refl _ _) _
  have R0 : Hid (RowAt W0 w.heap.size 25 #[.slice a m cap]) := by rw [hW0]; exact RowAt.new _ _ _
  have K := hid (iCaught w.heap.size a m cap R hm hs W0 R0.out.lt (R0.out.cell 0) (h.below B0.out))
  clear h hs
  go_enter Try.func7, Try.ntmps7
  go_wp2_with fail
  rw [← hW0]
  clear hW0
  refine K.out.mono ?_
  rintro e w2 ⟨⟨c, l, rfl, hc⟩, hb2⟩
  have B2 : Hid (Below w.heap.size w (w2.alloc (.cells #[.int .i64 c, .int .i64 l] 40))) := balCn (B0.out.trans (hb2.mono B0.out.size)) _
  clear hb2 K
  by_cases c0 : c = 0
  · have N : Hid (plV m R = 0) := by show _ = _; unfold plV; rw [pb_t (hc.1 c0)]; rfl
    have b0 : (c != 0) = false := by simp [c0]
    clear hc
    subst c0
    go_wp2
    go_ret
    exact ⟨by rw [N.out]; rfl, B2.out⟩
  · have N : Hid (plV m R = 1) := by show _ = _; unfold plV; rw [pb_f (fun hh => c0 (hc.2 hh))]; rfl
    have b0 : (c != 0) = true := by simpa using c0
    clear hc
    go_wp2
    go_ret
    exact ⟨by rw [N.out]; rfl, B2.out⟩
theorem stB_eq {s s' : St} {B : Nat} (h : StEq s s') (hb : StB s B) : StB s' B := by
  refine ⟨?_, ?_, ?_, ?_⟩
  · have := hb.wo; unfold SSB at this ⊢; rw [h.n1, h.t1] at this; exact this
  · have := hb.wa; unfold SSB at this ⊢; rw [h.n2, h.t2] at this; exact this
  · have := hb.wi; unfold SSB at this ⊢; rw [h.n3, h.t3] at this; exact this
  · have := hb.cs; unfold CSB at this ⊢; rw [h.n4, h.o4] at this; exact this
theorem stEq_trans {s s1 s2 : St} (h1 : StEq s s1) (h2 : StEq s s2) : StEq s1 s2 :=
  ⟨h1.ef.symm.trans h2.ef, h1.n1.symm.trans h2.n1, h1.t1.symm.trans h2.t1, h1.n2.symm.trans h2.n2, h1.t2.symm.trans h2.t2, h1.n3.symm.trans h2.n3, h1.t3.symm.trans h2.t3, h1.n4.symm.trans h2.n4, h1.o4.symm.trans h2.o4⟩
/-- a list of statements as the row gives it -/
def IsSts (w : World) (a : Option Addr) (m cap : Nat) (R : Nat → St) : Prop := Sts w a m cap R ∧ m ≤ maxLen ∧ ∀ k, k < m → StB (R k) maxLen
set_option maxRecDepth 20000 in
set_option maxHeartbeats 4000000 in
theorem fnExactPolicyFault_walk {w : World} (a : Option Addr) (m cap : Nat) (R : Nat → St) (h : IsSts w a m cap R) :
    Calls Try.prog 3 #[.slice a m cap] w fun e w' => e = .returned (.bool true) ∧ Below w.heap.size w w' := by
  obtain ⟨h1, h2, h3⟩ := h
  unfold maxLen at h2 h3
  have HH := hid h1
  have H3 := hid h3
  clear h1 h3
  go_enter Try.func3, Try.ntmps3
  go_wp2_with fail
  refine (szSts a m cap R 1048576 (by decide) (by decide) h2 H3.out w HH.out).mono ?_
  rintro e w1 ⟨⟨z, rfl, hz⟩, hb1⟩
  have B1 := hid hb1
  clear hb1
  by_cases z0 : z < 0
  · clear hz
    go_wp2
    go_ret
    exact ⟨rfl, B1.out⟩
  obtain ⟨hm, hs⟩ := hz.resolve_left z0
  have HS := hid hs
  clear hz hs
  go_wp2_with fail
  refine (toSts a m cap R hm HS.out w1 (HH.out.below B1.out)).mono ?_
  rintro e w2 ⟨rfl, ⟨R1, hr1, he1⟩, hb2⟩
  have HE1 := hid he1
  have HR1 := hid hr1
  have B2 := hid (B1.out.trans (hb2.mono B1.out.size))
  clear he1 hr1 hb2
  have HS1 : Hid (∀ k, k < m → StB (R1 k) 1048576) := fun k hk => stB_eq (HE1.out k hk) (HS.out k hk)
  have V1 := hid (plV_eq HE1.out)
  go_wp2_with fail
  refine (sPolF _ m m R1 hm HS1.out w2 HR1.out).mono ?_
  rintro e w3 ⟨rfl, hb3⟩
  have B3 := hid (B2.out.trans (hb3.mono B2.out.size))
  clear hb3
  rw [← V1.out]
  go_wp2_with fail
  refine (toSts a m cap R hm HS.out w3 (HH.out.below B3.out)).mono ?_
  rintro e w4 ⟨rfl, ⟨R2, hr2, he2⟩, hb4⟩
  have HE2 := hid he2
  have HR2 := hid hr2
  have B4 := hid (B3.out.trans (hb4.mono B3.out.size))
  clear he2 hr2 hb4
  have HS2 : Hid (∀ k, k < m → StB (R2 k) 1048576) := fun k hk => stB_eq (HE2.out k hk) (HS.out k hk)
  have V2 := hid (plV_eq HE2.out)
  obtain ⟨g, hg⟩ : ∃ g, g = w3.heap.size := ⟨_, rfl⟩
  rw [← hg] at HR2 ⊢
  clear hg
  go_wp2_with fail
  refine (iPolF _ m m R2 hm HS2.out w4 HR2.out).mono ?_
  rintro e w5 ⟨rfl, hb5⟩
  have HR5 := hid (HR2.out.below hb5)
  have B5 := hid (B4.out.trans (hb5.mono B4.out.size))
  clear hb5 HR2
  rw [← V2.out]
  generalize plV m R = V
  have dv : (V != V) = false := by simp
  go_wp2_with fail
  refine (toSts a m cap R hm HS.out w5 (HH.out.below B5.out)).mono ?_
  rintro e w6 ⟨rfl, ⟨R3, hr3, he3⟩, hb6⟩
  have HE3 := hid he3
  have HR3 := hid hr3
  have HR6 := hid (HR5.out.below hb6)
  have B6 := hid (B5.out.trans (hb6.mono B5.out.size))
  clear he3 hr3 hb6 HR5
  obtain ⟨g3, hg3⟩ : ∃ g, g = w5.heap.size := ⟨_, rfl⟩
  rw [← hg3] at HR3 ⊢
  clear hg3
  have HX : Hid (∀ k, k < m → StEq (R2 k) (R3 k)) := fun k hk => stEq_trans (HE2.out k hk) (HE3.out k hk)
  go_wp2_with fail
  refine (eqSts _ m m R2 _ m R3 hm HX.out HS2.out w6 HR6.out HR3.out).mono ?_
  rintro e w7 ⟨rfl, hb7⟩
  have B7 := hid (B6.out.trans (hb7.mono B6.out.size))
  clear hb7
  go_wp2
  go_ret
  exact ⟨rfl, B7.out⟩
end Go.Proofs.Ytjfmjcdopokkaab
