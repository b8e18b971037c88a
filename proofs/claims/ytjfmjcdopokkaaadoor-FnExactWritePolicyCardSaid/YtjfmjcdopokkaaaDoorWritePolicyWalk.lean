import Derived.Test.YtjfmjcdopokkaaaDoorIWr3
import Derived.Test.YtjfmjcdopokkaaaDoorOpenSt
namespace Go.Proofs.YtjfmjcdopokkaaaDoor
open Go.RowKit Go.Shelf
/-! FnExactWritePolicy. -/
theorem ln_eq {s s' : St} (h : StEq s s') : ln s = ln s' := by
  unfold ln lnH
  rw [h.ef, h.n1, h.t1, h.n2, h.t2, h.n3, h.t3, h.n4, h.o4]
theorem outL_eq {R R' : Nat → St} : ∀ m, (∀ k, k < m → StEq (R k) (R' k)) → outL R m = outL R' m
  | 0, _ => rfl
  | m + 1, h => by
    unfold outL
    rw [outL_eq m (fun k hk => h k (by omega)), ln_eq (h m (by omega))]
theorem wrV_eq {m : Nat} {R R' : Nat → St} (h : ∀ k, k < m → StEq (R k) (R' k)) : wrV m R = wrV m R' := by
  have e : plP m R ↔ plP m R' := by
    constructor
    · rintro ⟨h1, h2⟩; exact ⟨h1, fun k hk => by have := h2 k hk; rw [stP_eq (h k hk), (h k hk).n4] at this; exact this⟩
    · rintro ⟨h1, h2⟩; exact ⟨h1, fun k hk => by have := h2 k hk; rw [← stP_eq (h k hk), ← (h k hk).n4] at this; exact this⟩
  unfold wrV
  rw [outL_eq m h]
  by_cases hp : plP m R' ∧ (outL R' m).length ≤ 10000
  · rw [if_pos hp, if_pos ⟨e.2 hp.1, hp.2⟩]
  · rw [if_neg hp, if_neg fun hh => hp ⟨e.1 hh.1, hh.2⟩]
set_option maxRecDepth 20000 in
set_option maxHeartbeats 4000000 in
theorem fnExactWritePolicy_walk {w : World} (hT : TB w) (a : Option Addr) (m cap : Nat) (R : Nat → St) (h : IsSts w a m cap R) :
    Calls Tryd.prog 6 #[.slice a m cap] w fun e w' => e = .returned (.bool true) ∧ Below w.heap.size w w' := by
  obtain ⟨h1, h2, h3⟩ := h
  unfold maxLen at h2 h3
  have HH := hid h1
  have HT := hid hT
  have H3 := hid h3
  clear h1 h3 hT
  go_enter Tryd.func6, Tryd.ntmps6
  go_wp2_with fail
  refine (szSts a m cap R 1048576 (by decide) (by decide) h2 H3.out w HH.out).mono ?_
  rintro e w1 ⟨⟨z, rfl, hz⟩, hb1⟩
  have B1 := hid hb1
  clear hb1
  by_cases z0 : z < 0
  · clear hz
    go_wp2
    go_ret
    exact ⟨rfl, B1.out⟩
  obtain ⟨hm, hs⟩ := hz.resolve_left z0
  have HS := hid hs
  clear hz hs
  go_wp2_with fail
  refine (toSts a m cap R hm HS.out w1 (HH.out.below B1.out)).mono ?_
  rintro e w2 ⟨rfl, ⟨R1, hr1, he1⟩, hb2⟩
  have HE1 := hid he1
  have HR1 := hid hr1
  have B2 := hid (B1.out.trans (hb2.mono B1.out.size))
  clear he1 hr1 hb2
  have HS1 : Hid (∀ k, k < m → StB (R1 k) 1048576) := fun k hk => stB_eq (HE1.out k hk) (HS.out k hk)
  have V1 := hid (wrV_eq HE1.out)
  go_wp2_with fail
  refine (sWr _ m m R1 hm HS1.out w2 HR1.out).mono ?_
  rintro e w3 ⟨⟨T1, rfl, ht1⟩, hb3⟩
  have B3 := hid (B2.out.trans (hb3.mono B2.out.size))
  have D1 : Hid (T1.data.toList = wrV m R) := ht1.trans V1.out.symm
  clear hb3 ht1
  go_wp2_with fail
  refine (toSts a m cap R hm HS.out w3 (HH.out.below B3.out)).mono ?_
  rintro e w4 ⟨rfl, ⟨R2, hr2, he2⟩, hb4⟩
  have HE2 := hid he2
  have HR2 := hid hr2
  have B4 := hid (B3.out.trans (hb4.mono B3.out.size))
  clear he2 hr2 hb4
  have HS2 : Hid (∀ k, k < m → StB (R2 k) 1048576) := fun k hk => stB_eq (HE2.out k hk) (HS.out k hk)
  have V2 := hid (wrV_eq HE2.out)
  obtain ⟨g, hg⟩ : ∃ g, g = w3.heap.size := ⟨_, rfl⟩
  rw [← hg] at HR2 ⊢
  clear hg
  go_wp2_with fail
  refine (iWr _ m m R2 hm HS2.out w4 (HT.out.below B4.out) HR2.out).mono ?_
  rintro e w5 ⟨⟨T2, rfl, ht2⟩, hb5⟩
  have HR5 := hid (HR2.out.below hb5)
  have B5 := hid (B4.out.trans (hb5.mono B4.out.size))
  clear hb5 HR2
  have D2 : T2 = T1 := (bl_of (ht2.trans V2.out.symm)).trans (bl_of D1.out).symm
  subst D2
  go_wp2_with fail
  refine (toSts a m cap R hm HS.out w5 (HH.out.below B5.out)).mono ?_
  rintro e w6 ⟨rfl, ⟨R3, hr3, he3⟩, hb6⟩
  have HE3 := hid he3
  have HR3 := hid hr3
  have HR6 := hid (HR5.out.below hb6)
  have B6 := hid (B5.out.trans (hb6.mono B5.out.size))
  clear he3 hr3 hb6 HR5
  obtain ⟨g3, hg3⟩ : ∃ g, g = w5.heap.size := ⟨_, rfl⟩
  rw [← hg3] at HR3 ⊢
  clear hg3
  have HX : Hid (∀ k, k < m → StEq (R2 k) (R3 k)) := fun k hk => stEq_trans (HE2.out k hk) (HE3.out k hk)
  go_wp2_with fail
  refine (eqSts _ m m R2 _ m R3 hm HX.out HS2.out w6 HR6.out HR3.out).mono ?_
  rintro e w7 ⟨rfl, hb7⟩
  have B7 := hid (B6.out.trans (hb7.mono B6.out.size))
  clear hb7
  go_wp2
  go_ret
  exact ⟨rfl, B7.out⟩
end Go.Proofs.YtjfmjcdopokkaaaDoor
