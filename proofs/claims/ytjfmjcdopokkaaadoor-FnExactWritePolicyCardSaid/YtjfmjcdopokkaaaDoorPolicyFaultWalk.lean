import Derived.Test.YtjfmjcdopokkaaaDoorIPol6
import Derived.Test.YtjfmjcdopokkaaaDoorSPol2
namespace Go.Proofs.YtjfmjcdopokkaaaDoor
open Go.RowKit
/-! FnExactPolicyFault. -/
set_option maxRecDepth 20000 in
set_option maxHeartbeats 4000000 in
theorem iPolF (a : Option Addr) (m cap : Nat) (R : Nat → St) (hm : m ≤ 1048576) (hs : ∀ k, k < m → StB (R k) 1048576) (w : World) (h : Sts w a m cap R) :
    Calls Tryd.prog 25 #[.slice a m cap] w fun e w' => e = .returned (.int .i64 (plV m R)) ∧ Below w.heap.size w w' := by
  have hmf : ∀ (fn : Fn) (first cap : Array Value) (w : World), (Instr.makeFunc fn first cap).run Tryd.prog w = .ok (.func fn first cap) w := fun _ _ _ _ => rfl
  obtain ⟨W0, hW0⟩ : ∃ W, W = w.alloc (.cells #[.slice a m cap] 23) := ⟨_, rfl⟩
  have B0 : Hid (Below w.heap.size w W0) := by rw [hW0]; exact balCn (Below.refl _ _) _
  have R0 : Hid (RowAt W0 w.heap.size 23 #[.slice a m cap]) := by rw [hW0]; exact RowAt.new _ _ _
  have K := hid (iCaught w.heap.size a m cap R hm hs W0 R0.out.lt (R0.out.cell 0) (h.below B0.out))
  clear h hs
  go_enter Tryd.func25, Tryd.ntmps25
  go_wp2_with fail
  rw [← hW0]
  clear hW0
  refine K.out.mono ?_
  rintro e w2 ⟨⟨c, l, rfl, hc⟩, hb2⟩
  have B2 : Hid (Below w.heap.size w (w2.alloc (.cells #[.int .i64 c, .int .i64 l] 85))) := balCn (B0.out.trans (hb2.mono B0.out.size)) _
  clear hb2 K
  by_cases c0 : c = 0
  · have N : Hid (plV m R = 0) := by show _ = _; unfold plV; rw [pb_t (hc.1 c0)]; rfl
    have b0 : (c != 0) = false := by simp [c0]
    clear hc
    subst c0
    go_wp2
    go_ret
    exact ⟨by rw [N.out]; rfl, B2.out⟩
  · have N : Hid (plV m R = 1) := by show _ = _; unfold plV; rw [pb_f (fun hh => c0 (hc.2 hh))]; rfl
    have b0 : (c != 0) = true := by simpa using c0
    clear hc
    go_wp2
    go_ret
    exact ⟨by rw [N.out]; rfl, B2.out⟩
theorem stB_eq {s s' : St} {B : Nat} (h : StEq s s') (hb : StB s B) : StB s' B := by
  refine ⟨?_, ?_, ?_, ?_⟩
  · have := hb.wo; unfold SSB at this ⊢; rw [h.n1, h.t1] at this; exact this
  · have := hb.wa; unfold SSB at this ⊢; rw [h.n2, h.t2] at this; exact this
  · have := hb.wi; unfold SSB at this ⊢; rw [h.n3, h.t3] at this; exact this
  · have := hb.cs; unfold CSB at this ⊢; rw [h.n4, h.o4] at this; exact this
theorem stEq_trans {s s1 s2 : St} (h1 : StEq s s1) (h2 : StEq s s2) : StEq s1 s2 :=
  ⟨h1.ef.symm.trans h2.ef, h1.n1.symm.trans h2.n1, h1.t1.symm.trans h2.t1, h1.n2.symm.trans h2.n2, h1.t2.symm.trans h2.t2, h1.n3.symm.trans h2.n3, h1.t3.symm.trans h2.t3, h1.n4.symm.trans h2.n4, h1.o4.symm.trans h2.o4⟩
/-- a list of statements as the row gives it -/
def IsSts (w : World) (a : Option Addr) (m cap : Nat) (R : Nat → St) : Prop := Sts w a m cap R ∧ m ≤ maxLen ∧ ∀ k, k < m → StB (R k) maxLen
end Go.Proofs.YtjfmjcdopokkaaaDoor
