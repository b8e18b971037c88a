import Derived.Test.YtcbmgpdpjagaoaaGreatMgR
import Derived.Test.YtcbmgpdpjagaoaaGreatG6
import Derived.Test.YtcbmgpdpjagaoaaGreatI2
namespace Go.Proofs.YtcbmgpdpjagaoaaGreat
open Go.RowKit
set_option linter.unusedVariables false
set_option maxRecDepth 20000 in
set_option maxHeartbeats 2000000 in
theorem iCopyE (ky : ByteArray) (sq : Int) (gn : Bool) (tx : ByteArray) (h1 : ky.size ≤ 1048576) (h2 : tx.size ≤ 1048576) (w : World) :
 Calls Tryz.prog 38 #[.agg #[.string ky, .int .i64 sq, .bool gn, .string tx]] w fun e w' => e = .returned (.agg #[.string ky, .int .i64 sq, .bool gn, .string tx]) ∧ Below w.heap.size w w' := by
 obtain ⟨W1, hW1⟩ : ∃ W, W = (w.alloc (.cells #[.string ky, .int .i64 sq, .bool gn, .string tx] 46)).alloc (.cells #[.string ⟨#[]⟩, .int .i64 0, .bool false, .string ⟨#[]⟩] 46) := ⟨_, rfl⟩; have A1 : Hid (RA W1 w.heap.size 46 #[.string ky, .int .i64 sq, .bool gn, .string tx]) := by rw [hW1]; exact (RA.new _ _ _).alloc _
 have B1 : Hid (RA W1 (w.heap.size + 1) 46 #[.string ⟨#[]⟩, .int .i64 0, .bool false, .string ⟨#[]⟩]) := by rw [hW1]; exact RA.next _ _ _ (by rw [World.size_alloc])
 have L1 : Hid (Below w.heap.size w W1) := by rw [hW1]; exact ((Below.refl _ _).alloc (Nat.le_refl _) _).alloc (by rw [World.size_alloc]; omega) _
 have K1 := fun wx => hid (clone_any ky wx (by omega)); have K2 := fun wx => hid (clone_any tx wx (by omega)); have x0 := A1.out.cell 0; have f0 := A1.out.free 0
 go_enter Tryz.func38, Tryz.ntmps38
 go_upto_region 1 with fail
 rw [← hW1]; clear hW1
 go_wp2_with fail
 refine (K1 W1).out.mono ?_
 rintro e w2 ⟨rfl, hb2⟩
 have A2 := hid (A1.out.below hb2 A1.out.lt); have B2 := hid (B1.out.below hb2 B1.out.lt); have L2 := hid (L1.out.trans (hb2.mono L1.out.size)); clear hb2 x0 f0; obtain ⟨W3, hW3⟩ : ∃ W, W = w2.setCell ⟨w.heap.size, 0, none⟩ (.string ky) := ⟨_, rfl⟩; have A3 : Hid (RA W3 w.heap.size 46 #[.string ky, .int .i64 sq, .bool gn, .string tx]) := by rw [hW3]; exact A2.out.set 0 _
 have B3 : Hid (RA W3 (w.heap.size + 1) 46 #[.string ⟨#[]⟩, .int .i64 0, .bool false, .string ⟨#[]⟩]) := by rw [hW3]; exact B2.out.other _ _ (by show w.heap.size + 1 ≠ w.heap.size; omega)
 have L3 : Hid (Below w.heap.size w W3) := by rw [hW3]; exact L2.out.setCell (Nat.le_refl _) _
 have x0 := A2.out.cell 0; have f0 := A2.out.free 0
 go_upto_region 2 with fail
 rw [← hW3]; clear hW3 x0 f0; have x3 := A3.out.cell 3
 go_wp2_with fail
 refine (K2 W3).out.mono ?_
 rintro e w4 ⟨rfl, hb4⟩
 have A4 := hid (A3.out.below hb4 A3.out.lt); have B4 := hid (B3.out.below hb4 B3.out.lt); have L4 := hid (L3.out.trans (hb4.mono L3.out.size)); clear hb4 x3; obtain ⟨W5, hW5⟩ : ∃ W, W = w4.setCell ⟨w.heap.size, 3, none⟩ (.string tx) := ⟨_, rfl⟩; have A5 : Hid (RA W5 w.heap.size 46 #[.string ky, .int .i64 sq, .bool gn, .string tx]) := by rw [hW5]; exact A4.out.set 3 _
 have B5 : Hid (RA W5 (w.heap.size + 1) 46 #[.string ⟨#[]⟩, .int .i64 0, .bool false, .string ⟨#[]⟩]) := by rw [hW5]; exact B4.out.other _ _ (by show w.heap.size + 1 ≠ w.heap.size; omega)
 have L5 : Hid (Below w.heap.size w W5) := by rw [hW5]; exact L4.out.setCell (Nat.le_refl _) _
 have x3 := A4.out.cell 3; have f3 := A4.out.free 3
 go_upto_region 3 with fail
 rw [← hW5]; clear hW5 x3 f3; have c0 := A5.out.cell 0; have c1 := A5.out.cell 1; have c2 := A5.out.cell 2; have c3 := A5.out.cell 3
 go_wp2_with (refine wpList_store_row rfl 46 (.tmp 2) (.tmp 11) rfl (w.heap.size + 1) #[.string ky, .int .i64 sq, .bool gn, .string tx] rfl rfl _ _ B5.out (by kernel_rfl) rfl (by simp [Value.oneCell']) ?_)
 refine bodyPost_ret (v := .agg #[.string ky, .int .i64 sq, .bool gn, .string tx]) ?_ rfl ⟨rfl, below_setRow L5.out _ _ (by omega)⟩; exact results_cell_row Tryz.results38 _ _ (w.heap.size + 1) _ _ _ _ rfl (B5.out.setRow _) Tryz.underlying46 rfl (by kernel_rfl)
set_option maxRecDepth 20000 in
set_option maxHeartbeats 4000000 in
theorem iCopyEs (a : Option Addr) (n cap : Nat) (o : Nat → En) (hn : n ≤ 1048576) (hs : ∀ i, i < n → (o i).ky.size ≤ 1048576 ∧ (o i).tx.size ≤ 1048576) (w : World) (h : Ens w a n cap o) :
 Calls Tryz.prog 36 #[.slice a n cap] w fun e w' => (∃ v, e = .returned v ∧ OwnEn w' w.heap.size v ((List.range n).map o)) ∧ Below w.heap.size w w' := by
 have HE := hid h; have HS := hid hs; clear h hs
 go_enter Tryz.func36, Tryz.ntmps36
 go_wp2_with fail
 go_loopw [3, 8] (fun v i wr => ∃ k : Nat, k ≤ n ∧ i = .int .i64 (k : Int) ∧ OwnEn wr w.heap.size v ((List.range k).map o) ∧ Below w.heap.size w wr) (fun _ i _ => n - (intOf i).toNat)
 case atStart => exact ⟨0, Nat.zero_le _, rfl, OwnEn.nil _ _, Below.refl _ _⟩
 case round =>
  obtain ⟨k, hk, rfl, hO, hB⟩ := hrel; obtain ⟨WR, hWR⟩ : ∃ v, v = wr := ⟨_, rfl⟩; subst hWR; have OO := hid hO; have BB := hid hB; obtain ⟨av, cv, hv⟩ := hO.slice; rw [show ((List.range k).map o).length = k by simp] at hv; clear hO hB; subst hv
  by_cases hlt : k < n
  · have d0 : (k : Int) < (n : Int) := by omega
    rcases (HE.out.below BB.out).2 with h00 | ⟨g, og, rfl, hgl, hc⟩
    · omega
    obtain ⟨x0, x1, x2, x3⟩ := hc k hlt; have sz := HS.out k hlt; have LN : Hid ((List.range (k + 1)).map o = (List.range k).map o ++ [o k]) := by show _ = _; rw [List.range_succ]; simp
    generalize hok : o k = e at x0 x1 x2 x3 sz LN
    clear hok hc; obtain ⟨ky, sq, gn, tx⟩ := e; dsimp only at x0 x1 x2 x3 sz; obtain ⟨W2, hW2⟩ : ∃ W, W = WR.alloc (.cells #[.string ky, .int .i64 sq, .bool gn, .string tx] 46) := ⟨_, rfl⟩; have b2 : Hid (Below WR.heap.size WR W2) := by rw [hW2]; exact (Below.refl _ _).alloc (Nat.le_refl _) _
    have R2 : Hid (RA W2 WR.heap.size 46 #[.string ky, .int .i64 sq, .bool gn, .string tx]) := by rw [hW2]; exact RA.new _ _ _
    go_upto_region 5 with fail
    rw [← hW2]; clear hW2 x0 x1 x2 x3; have y0 := R2.out.cell 0; have y1 := R2.out.cell 1; have y2 := R2.out.cell 2; have y3 := R2.out.cell 3; have KC := hid (iCopyE ky sq gn tx sz.1 sz.2 W2)
    go_wp2_with fail
    refine KC.out.mono ?_
    rintro e w3 ⟨rfl, hb3⟩
    have b3 := hid (b2.out.trans (hb3.mono b2.out.size)); have O3 := hid (OO.out.below b3.out); have B3 := hid (BB.out.trans (b3.out.mono BB.out.size)); clear hb3 KC y0 y1 y2 y3
    go_wp2_with (at_builtin; refine append_en w.heap.size w3 rfl (.tmp 12) (.tmp 15) rfl _ ((List.range k).map o) ⟨ky, sq, gn, tx⟩ rfl O3.out B3.out.size rfl (by simp; omega) ?_; intro v' w4 hO4 hg4)
    rw [← LN.out] at hO4; have O4 := hid hO4; have B4 := hid (B3.out.grown hg4 B3.out.size (fun g e => (O3.out.row e).1)); clear hO4 hg4
    go_wp2
    go_roundw
    case rel => exact ⟨k + 1, by omega, by go_num, O4.out, B4.out⟩
    case measure => simp [intOf]; omega
  · have d0 : ¬ (k : Int) < (n : Int) := by omega
    obtain rfl : k = n := by omega
    go_wp2
    go_ret
    exact ⟨⟨_, rfl, OO.out⟩, BB.out⟩
end Go.Proofs.YtcbmgpdpjagaoaaGreat
namespace Go.Proofs.YtcbmgpdpjagaoaaGreat
open Go.RowKit
set_option linter.unusedVariables false
end Go.Proofs.YtcbmgpdpjagaoaaGreat
