import Derived.Test.YtlobnmcjnaibaaaDoorRIInverse
import Derived.Test.YtlobnmcjnaibaaaDoorRIFault
namespace Go.Proofs.YtlobnmcjnaibaaaDoorR
open Go.RowKit
set_option maxRecDepth 20000 in
set_option maxHeartbeats 4000000 in
theorem imatrank (R C q K : Nat) (hR1 : 1 ≤ R) (hR : R ≤ 64) (hC1 : 1 ≤ C) (hC : C ≤ 64) (hq : q = R * C) (xs : List Nat) (hs : Small xs) (HK : Hid (rank R C (fm (mo C xs)) = K)) (a : Option Addr) (cap : Nat) (w : World) (hT : Tab w) (h : Ints .i64 w a q cap (nl xs)) (F1 : mfault R C (nl xs) = 0) :
    Calls Tryd.prog 9 #[mxv R C a q cap] w fun e w' => e = .returned (.int .i64 K) ∧ Below w.heap.size w w' := by
  have q4 : q ≤ 4096 := by have : q ≤ 64 * 64 := by { rw [hq]; exact Nat.mul_le_mul hR hC }; omega
  have IA : Hid ((R : Int) * (C : Int) = (q : Int)) := by show _ = _; rw [hq]; simp
  have HQ := hid hq
  have HS := hid hs
  have LX : Hid (xs.length = q) := by have := h.1; rwa [nl_len] at this
  have G1 := hid F1
  have HC : Hid (C ≤ 128) := by show C ≤ 128; omega
  obtain ⟨W, hW⟩ : ∃ W, W = w.alloc (.cells #[.int .i64 R, .int .i64 C, .slice a q cap] 25) := ⟨_, rfl⟩
  have hWs : W.heap.size = w.heap.size + 1 := by rw [hW]; simp only [size_al]
  have A0 : Hid (RowAt W w.heap.size 25 #[.int .i64 R, .int .i64 C, .slice a q cap]) := by rw [hW]; exact RowAt.new w _ _
  have HA : Hid (Ints .i64 W a q cap (nl xs)) := by rw [hW]; exact h.alloc _
  have T0 : Hid (Tab W) := by rw [hW]; exact hT.alloc _
  have L0 : Hid (Below w.heap.size w W) := by rw [hW]; exact (Below.refl _ _).alloc (Nat.le_refl _) _
  have hw1 := hT.lt
  clear hq hs h F1 hT
  have r1 := A0.out
  go_enter Tryd.func9, Tryd.ntmps9
  go_wp2_with (first | rw [← hW] | refine wpList_load_row rfl 25 (.tmp 1) rfl w.heap.size rfl _ _ _ _ r1 Tryd.underlying25 rfl (by kernel_rfl) ?_)
  clear hW r1
  refine (ifault R C a q cap (nl xs) _ HA.out (by omega)).mono ?_
  rintro e w1 ⟨rfl, hb1⟩
  rw [G1.out]
  have L1 := hid hb1
  have A1 := hid (A0.out.below hb1 (by omega))
  have T1 := hid (T0.out.below hb1 (by omega))
  have x0 := A1.out.cell 0
  have x1 := A1.out.cell 1
  have x2 := A1.out.cell 2
  have h1s := hb1.size
  clear hb1
  go_wp2_with fail
  go_region_held3 (fun wx => wx.cell? ⟨w.heap.size, 0, none⟩ = some (.int .i64 R) ∧ wx.cell? ⟨w.heap.size, 1, none⟩ = some (.int .i64 C) ∧ wx.cell? ⟨w.heap.size, 2, none⟩ = some (.slice a q cap))
    ((first | (go_keep; done) | exact ⟨A3.cell 0, A3.cell 1, A3.cell 2⟩ | exact ⟨A2.cell 0, A2.cell 1, A2.cell 2⟩))
    ((first
      | (go_at_call 23; refine (igridOf R C q IA (by omega) xs HS.out a cap _ ((HA.out.below L1.out).below (Below.refl _ _).drew)).mono ?_; rintro e w2 ⟨g2, rfl, hg2, hG2, hb2⟩; have L2 := L1.out.drew.trans (hb2.mono L1.out.size); have A2 := A0.out.below L2 (by omega); have T2 := T0.out.below L2 (by omega); have hg2' : W.heap.size ≤ g2 := Nat.le_trans L1.out.size hg2)
      | (go_at_call 32; refine (ielimK (fm (mo C xs)) R C C q g2 K HK xs _ T2 (by omega) hR1 hR hC1 HC.out (Nat.le_refl _) HQ.out hG2 LX.out HS.out (fun _ _ _ _ => rfl)).mono ?_; rintro e w3 ⟨rfl, _, hg3⟩; have L3 := L2.grown hg3 L2.size (fun k hk => by cases hk; exact hg2'); have A3 := A0.out.below L3 (by omega))))
  have L4 := hid L3
  clear L2 L3 A2 A3 T2 hG2 hb2 hg3 x0 x1 x2
  go_wp2
  go_ret
  exact ⟨rfl, L0.out.trans (L4.out.mono (by omega))⟩
set_option maxRecDepth 20000 in
set_option maxHeartbeats 1000000 in
theorem imatrank_no (r c : Int) (xs : List Int) (a : Option Addr) (la ca : Nat) (w : World) (h : Ints .i64 w a la ca xs) (hla : la ≤ 1048576) (f1 : mfault r c xs = 1) :
    Calls Tryd.prog 9 #[mxv r c a la ca] w fun e w' => e = .returned (.int .i64 (-1)) ∧ Below w.heap.size w w' := by
  have G1 := hid f1
  have HH := hid h
  clear f1 h
  have r1 := RowAt.new w 25 #[.int .i64 r, .int .i64 c, .slice a la ca]
  go_enter Tryd.func9, Tryd.ntmps9
  go_wp2_with (refine wpList_load_row rfl 25 (.tmp 1) rfl w.heap.size rfl _ _ _ _ r1 Tryd.underlying25 rfl (by kernel_rfl) ?_)
  refine (ifault r c a la ca xs _ (HH.out.alloc _) hla).mono ?_
  rintro e w1 ⟨rfl, hb1⟩
  rw [G1.out]
  go_wp2
  go_ret
  exact ⟨rfl, ((Below.refl _ _).alloc (Nat.le_refl _) _).trans (hb1.mono (by rw [size_al]; omega))⟩
end Go.Proofs.YtlobnmcjnaibaaaDoorR
