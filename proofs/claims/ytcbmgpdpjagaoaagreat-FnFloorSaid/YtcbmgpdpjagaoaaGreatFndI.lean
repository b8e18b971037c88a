import Derived.Test.YtcbmgpdpjagaoaaGreatSnI
import Derived.Test.YtcbmgpdpjagaoaaGreatM1
import Derived.Test.YtcbmgpdpjagaoaaGreatITab
namespace Go.Proofs.YtcbmgpdpjagaoaaGreat
open Go.RowKit
set_option linter.unusedVariables false
def hdE : List En → En
 | [] => en0
 | e :: _ => e
theorem fnd_hd (b : Option En) : hdE (fndL b) = fndE b := by
 cases b with
 | none => rfl
 | some e =>
  unfold fndL fndE; dsimp only
  split <;> rfl
theorem fir_ret {w W' : World} {ky tx : ByteArray} {sq : Int} {gn : Bool} {P : En → World → Prop} {tm : Array Value} (sa : RA W' w.heap.size 46 #[.string ky, .int .i64 sq, .bool gn, .string tx]) (so : P ⟨ky, sq, gn, tx⟩ W') (bl : Below w.heap.size w W') (h2 : tm.getD 6 undef = .pointer (some ⟨w.heap.size, 0, none⟩)) :
 bodyPost Tryz.prog Tryz.f39 (fun e w' => (∃ x : En, e = .returned (.agg #[.string x.ky, .int .i64 x.sq, .bool x.gn, .string x.tx]) ∧ P x w') ∧ Below w.heap.size w w') Exit.ret { tmps := tm, defers := [] } W' := by
 refine bodyPost_ret (v := .agg #[.string ky, .int .i64 sq, .bool gn, .string tx]) ?_ rfl ⟨⟨⟨ky, sq, gn, tx⟩, rfl, so⟩, bl⟩; exact results_cell_row Tryz.results39 _ _ w.heap.size _ _ _ _ h2 sa Tryz.underlying46 rfl (by kernel_rfl)
set_option maxRecDepth 20000 in
set_option maxHeartbeats 4000000 in
theorem iFir_no (a : Option Addr) (m cap : Nat) (key : ByteArray) (seq : Int) (hk : key.size ≤ 1048576) (hf : kFit key = false) (w : World) :
 Calls Tryz.prog 39 #[.slice a m cap, .string key, .int .i64 seq] w fun e w' => (∃ x : En, e = .returned (.agg #[.string x.ky, .int .i64 x.sq, .bool x.gn, .string x.tx]) ∧ x = en0) ∧ Below w.heap.size w w' := by
 obtain ⟨W1, hW1⟩ : ∃ W, W = w.alloc (.cells #[.string ⟨#[]⟩, .int .i64 0, .bool false, .string ⟨#[]⟩] 46) := ⟨_, rfl⟩; have B1 : Hid (Below w.heap.size w W1) := by rw [hW1]; exact (Below.refl _ _).alloc (Nat.le_refl _) _
 have R1 : Hid (RA W1 w.heap.size 46 #[.string ⟨#[]⟩, .int .i64 0, .bool false, .string ⟨#[]⟩]) := by rw [hW1]; exact RA.new _ _ _
 have KF := hid (iKeyFits key hk W1); rw [hf] at KF
 go_enter Tryz.func39, Tryz.ntmps39
 go_upto_region 1 with fail
 rw [← hW1]; clear hW1
 go_wp2_with fail
 refine KF.out.mono ?_
 rintro e w2 ⟨rfl, rfl⟩
 go_wp2_with (refine wpList_store_row rfl 46 (.tmp 6) (.tmp 11) rfl w.heap.size #[.string ⟨#[]⟩, .int .i64 0, .bool false, .string ⟨#[]⟩] rfl rfl _ _ R1.out (by kernel_rfl) rfl (oneEn4 _ _ _ _) ?_)
 exact fir_ret (P := fun x _ => x = en0) (R1.out.setRow _) rfl (below_setRow B1.out _ _ (Nat.le_refl _)) rfl
set_option maxRecDepth 20000 in
set_option maxHeartbeats 4000000 in
theorem iFir_ok (a : Option Addr) (m cap : Nat) (R : Nat → Rn) (key : ByteArray) (seq : Int) (hf : kFit key = true) (hm : m ≤ 1000) (hn : ∀ r, r < m → (R r).n ≤ 1048576) (st : Nat → Nat) (S : List Tg) (hSl : S.length ≤ 1000000) (w : World)
 (hN : Rns w a m cap R) (hR : RSrt R m) (hst : StOk R m key st) (hS : S.Pairwise tLt) (hM : Rem S R m st 0) :
 Calls Tryz.prog 39 #[.slice a m cap, .string key, .int .i64 seq] w fun e w' => (∃ x : En, e = .returned (.agg #[.string x.ky, .int .i64 x.sq, .bool x.gn, .string x.tx]) ∧ x = hdE (scL (tzB key) seq 1 ⟨#[]⟩ [] (S.map Prod.fst))) ∧ Below w.heap.size w w' := by
 obtain ⟨W1, hW1⟩ : ∃ W, W = w.alloc (.cells #[.string ⟨#[]⟩, .int .i64 0, .bool false, .string ⟨#[]⟩] 46) := ⟨_, rfl⟩; have B1 : Hid (Below w.heap.size w W1) := by rw [hW1]; exact (Below.refl _ _).alloc (Nat.le_refl _) _
 have R1 : Hid (RA W1 w.heap.size 46 #[.string ⟨#[]⟩, .int .i64 0, .bool false, .string ⟨#[]⟩]) := by rw [hW1]; exact RA.new _ _ _
 have hks : key.size ≤ 200 := by unfold kFit at hf; simp at hf; exact hf.2
 have KF := hid (iKeyFits key (by omega) W1); rw [hf] at KF; have KS := hid (iScan a m cap R key (tzB key) seq 1 (by omega) (by unfold tzB; rw [ByteArray.size_append]; show key.size + 1 ≤ _; omega) hm hn st S hSl W1 (hN.below B1.out) hR hst hS hM); obtain ⟨L, hL⟩ : ∃ L, L = scL (tzB key) seq 1 ⟨#[]⟩ [] (S.map Prod.fst) := ⟨_, rfl⟩; rw [← hL] at KS ⊢; clear hL hN hR hst hS hM hn hf; unfold tzB at KS
 go_enter Tryz.func39, Tryz.ntmps39
 go_upto_region 1 with fail
 rw [← hW1]; clear hW1
 go_wp2_with fail
 refine KF.out.mono ?_
 rintro e w2 ⟨rfl, rfl⟩
 go_wp2_with fail
 refine KS.out.mono ?_
 rintro e w3 ⟨⟨v3, rfl, hO3⟩, hb3⟩
 have R3 := hid (R1.out.below hb3 R1.out.lt); have B3 := hid (B1.out.trans (hb3.mono B1.out.size))
 cases L with
 | nil =>
  obtain ⟨a3, c3, hv3⟩ := hO3.slice; subst hv3; rw [show ([] : List En).length = 0 from rfl]; clear hO3 hb3 KS KF
  go_wp2_with (refine wpList_store_row rfl 46 (.tmp 6) (.tmp 21) rfl w.heap.size #[.string ⟨#[]⟩, .int .i64 0, .bool false, .string ⟨#[]⟩] rfl rfl _ _ R3.out (by kernel_rfl) rfl (oneEn4 _ _ _ _) ?_)
  exact fir_ret (P := fun x _ => x = en0) (R3.out.setRow _) rfl (below_setRow B3.out _ _ (Nat.le_refl _)) rfl
 | cons x r =>
  obtain ⟨a3, c3, hv3⟩ := hO3.slice; subst hv3; obtain ⟨N, hN⟩ : ∃ N, N = (x :: r).length := ⟨_, rfl⟩; have n0 : (0 : Int) < (N : Int) := by rw [hN, List.length_cons]; omega
  have n1 : ((N : Int) == 0) = false := by simp; omega
  have E3 := hO3.ens.2; rw [← hN] at E3 ⊢
  rcases E3.2 with h00 | ⟨b, off, rfl, hbl, hc⟩
  · rw [hN, List.length_cons] at h00; omega
  obtain ⟨x0, x1, x2, x3⟩ := hc 0 (by omega); rw [show enA (x :: r) 0 = x from rfl] at x0 x1 x2 x3; obtain ⟨X0, X1, X2, X3⟩ := x; dsimp only at x0 x1 x2 x3; simp only [Nat.zero_mul, Nat.add_zero] at x0 x1 x2 x3; clear hO3 hb3 KS KF hc E3 hN
  go_wp2_with (refine wpList_store_row rfl 46 (.tmp 6) (.tmp 24) rfl w.heap.size #[.string X0, .int .i64 X1, .bool X2, .string X3] rfl rfl _ _ R3.out (by kernel_rfl) rfl (oneEn4 _ _ _ _) ?_)
  exact fir_ret (P := fun x _ => x = ⟨X0, X1, X2, X3⟩) (R3.out.setRow _) rfl (below_setRow B3.out _ _ (Nat.le_refl _)) rfl
theorem en0_sz : en0.ky.size ≤ 1048576 ∧ en0.tx.size ≤ 1048576 := ⟨by decide, by decide⟩
theorem fndE_sz {P : En → Prop} {key : ByteArray} {seq : Int} {b : Option En} (h : IsB P key seq b) (hP : ∀ e, P e → fitE e) : (fndE b).ky.size ≤ 1048576 ∧ (fndE b).tx.size ≤ 1048576 := by
 rcases h with ⟨rfl, _⟩ | ⟨x, rfl, hx, _⟩
 · exact en0_sz
 · show (if x.gn = true then en0 else x).ky.size ≤ _ ∧ (if x.gn = true then en0 else x).tx.size ≤ _
   by_cases g : x.gn = true
   · rw [if_pos g]; exact en0_sz
   · rw [if_neg g]; have := hP x hx; unfold fitE at this; omega
theorem iFir (s f : Int) (a0 : Option Addr) (n0 c0 : Nat) (o0 : Nat → En) (m : Nat) (R : Nat → Rn) (key : ByteArray) (hk : key.size ≤ 1048576) (seq : Int) (hq : seq ≤ 9223372036854775807) (ht : tabOk s f n0 o0 m R) (hz : RnSz (snoc R m ⟨a0, n0, c0, o0⟩) (m + 1)) (a : Option Addr) (cap : Nat) (w : World) (hN : Rns w a (m + 1) cap (snoc R m ⟨a0, n0, c0, o0⟩)) :
 Calls Tryz.prog 39 #[.slice a (m + 1) cap, .string key, .int .i64 seq] w fun e w' => (∃ x : En, e = .returned (.agg #[.string x.ky, .int .i64 x.sq, .bool x.gn, .string x.tx]) ∧ FnR s f n0 o0 m R key seq x ∧ x.ky.size ≤ 1048576 ∧ x.tx.size ≤ 1048576) ∧ Below w.heap.size w w' := by
 cases hf : kFit key with
 | false =>
  refine (iFir_no a (m + 1) cap key seq hk hf w).mono ?_
  rintro e w2 ⟨⟨x, rfl, rfl⟩, hb⟩
  exact ⟨⟨_, rfl, FnR.out seq ht (fun q => by unfold kFit at hf; simp [q.1, q.2] at hf), en0_sz⟩, hb⟩
 | true =>
  have hne : key ≠ ⟨#[]⟩ := fun q => by rw [q] at hf; revert hf; decide
  have hR := snoc_srt ht ⟨a0, n0, c0, o0⟩ rfl rfl; obtain ⟨st, hst⟩ := st_ex hR key; obtain ⟨S, h1, h2, h3, h4⟩ := rem_ex hst; obtain ⟨b, hb, he⟩ := find_runs hne hq hst h1 h2 h4; rw [snoc_cnt] at h3; have hb' : IsB (fun e => e ∈ allTb n0 o0 R m) key seq b := hb.cg (fun e q => snoc_mem.1 q) (fun e q _ => snoc_mem.2 q); have hc := ht.2.2.2.1; have hm := ht.1.2.2.2; refine (iFir_ok a (m + 1) cap (snoc R m ⟨a0, n0, c0, o0⟩) key seq hf (by omega) (fun r hr => (hz r hr).1) st S (by have : S.length ≤ cntR R m + n0 := h3; omega) w hN hR hst h1 h2).mono ?_
  rintro e w2 ⟨⟨x, rfl, rfl⟩, hbl⟩
  rw [he, fnd_hd]; exact ⟨⟨_, rfl, .inr ⟨ht, b, hb', rfl⟩, fndE_sz hb' (tab_fit ht)⟩, hbl⟩
theorem fe_ret {w W' : World} {ky tx : ByteArray} {sq : Int} {gn : Bool} {P : En → World → Prop} {tm : Array Value} (sa : RA W' (w.heap.size + 1) 46 #[.string ky, .int .i64 sq, .bool gn, .string tx]) (so : P ⟨ky, sq, gn, tx⟩ W') (bl : Below w.heap.size w W') (h2 : tm.getD 6 undef = .pointer (some ⟨w.heap.size + 1, 0, none⟩)) :
 bodyPost Tryz.prog Tryz.f14 (fun e w' => (∃ x : En, e = .returned (.agg #[.string x.ky, .int .i64 x.sq, .bool x.gn, .string x.tx]) ∧ P x w') ∧ Below w.heap.size w w') Exit.ret { tmps := tm, defers := [] } W' := by
 refine bodyPost_ret (v := .agg #[.string ky, .int .i64 sq, .bool gn, .string tx]) ?_ rfl ⟨⟨⟨ky, sq, gn, tx⟩, rfl, so⟩, bl⟩; exact results_cell_row Tryz.results14 _ _ (w.heap.size + 1) _ _ _ _ h2 sa Tryz.underlying46 rfl (by kernel_rfl)
set_option maxRecDepth 20000 in
set_option maxHeartbeats 4000000 in
theorem iFindG (s f : Int) (a0 : Option Addr) (n0 c0 : Nat) (o0 : Nat → En) (ar : Option Addr) (m cap : Nat) (R : Nat → Rn) (hn : n0 ≤ 1048576) (hm : m ≤ 1048576) (hc : cntR R m + n0 ≤ 1048576) (hs : ∀ k, k < n0 → (o0 k).ky.size ≤ 1048576 ∧ (o0 k).tx.size ≤ 1048576) (hz : RnSz R m) (key : ByteArray) (hk : key.size ≤ 1048576) (seq : Int) (hq : seq ≤ 9223372036854775807) (w : World) (h0 : Ens w a0 n0 c0 o0) (h : Rns w ar m cap R) (hA : RnA w ar m cap R) :
 Calls Tryz.prog 14 #[.agg #[.int .i64 s, .int .i64 f, .slice a0 n0 c0, .slice ar m cap], .string key, .int .i64 seq] w fun e w' => (∃ x : En, e = .returned (.agg #[.string x.ky, .int .i64 x.sq, .bool x.gn, .string x.tx]) ∧ FnR s f n0 o0 m R key seq x) ∧ Below w.heap.size w w' := by
 obtain ⟨W1, hW1⟩ : ∃ W, W = (w.alloc (.cells #[.int .i64 s, .int .i64 f, .slice a0 n0 c0, .slice ar m cap] 28)).alloc (.cells #[.string ⟨#[]⟩, .int .i64 0, .bool false, .string ⟨#[]⟩] 46) := ⟨_, rfl⟩; have B1 : Hid (Below w.heap.size w W1) := by rw [hW1]; exact balEn (balEn (Below.refl _ _) _) _
 have T1 : Hid (RA W1 w.heap.size 28 #[.int .i64 s, .int .i64 f, .slice a0 n0 c0, .slice ar m cap]) := by rw [hW1]; exact (RA.new _ _ _).alloc _
 have R1 : Hid (RA W1 (w.heap.size + 1) 46 #[.string ⟨#[]⟩, .int .i64 0, .bool false, .string ⟨#[]⟩]) := by rw [hW1]; exact RA.next _ _ _ (by rw [size_al])
 have K0 := hid (iTabG s f a0 n0 c0 o0 ar m cap R hn hm hc hs hz W1 (h0.below B1.out) (h.below B1.out) (hA.below B1.out)); have r0 := T1.out.cell 0; have r1 := T1.out.cell 1; have r2 := T1.out.cell 2; have r3 := T1.out.cell 3
 by_cases ht : tabOk s f n0 o0 m R
 · rw [tabV_ok ht] at K0
   have HT := hid ht; have KA := fun wx (hb : Below w.heap.size w wx) => hid (iAllRunsG ar m cap R ⟨a0, n0, c0, o0⟩ hm wx (hA.below hb)); rw [show rnV ⟨a0, n0, c0, o0⟩ = .slice a0 n0 c0 from rfl] at KA
   have HZS : RnSz (snoc R m ⟨a0, n0, c0, o0⟩) (m + 1) := fun k hk => by
    by_cases e : k < m
    · rw [show snoc R m ⟨a0, n0, c0, o0⟩ k = R k by unfold snoc; rw [if_pos e]]; exact hz k e
    · rw [show snoc R m ⟨a0, n0, c0, o0⟩ k = ⟨a0, n0, c0, o0⟩ by unfold snoc; rw [if_neg e]]; exact ⟨hn, hs⟩
   have HES : Hid (∀ wx, Below w.heap.size w wx → ∀ k, k < m + 1 → Ens wx (snoc R m ⟨a0, n0, c0, o0⟩ k).ad (snoc R m ⟨a0, n0, c0, o0⟩ k).n (snoc R m ⟨a0, n0, c0, o0⟩ k).cap (snoc R m ⟨a0, n0, c0, o0⟩ k).o) := fun wx hb k hk => by
    by_cases e : k < m
    · rw [show snoc R m ⟨a0, n0, c0, o0⟩ k = R k by unfold snoc; rw [if_pos e]]; exact (h.below hb).2.2 k e
    · rw [show snoc R m ⟨a0, n0, c0, o0⟩ k = ⟨a0, n0, c0, o0⟩ by unfold snoc; rw [if_neg e]]; exact h0.below hb
   have KF := fun a cap wx (hN : Rns wx a (m + 1) cap (snoc R m ⟨a0, n0, c0, o0⟩)) => hid (iFir s f a0 n0 c0 o0 m R key hk seq hq ht HZS a cap wx hN); clear ht h0 h hA hs hz HZS
   go_enter Tryz.func14, Tryz.ntmps14
   go_upto_region 1 with fail
   rw [← hW1]; clear hW1
   go_wp2_with fail
   refine K0.out.mono ?_
   rintro e w2 ⟨rfl, hb2⟩
   have T2 := hid (T1.out.below hb2 T1.out.lt); have R2 := hid (R1.out.below hb2 R1.out.lt); have B2 := hid (B1.out.trans (hb2.mono B1.out.size)); clear hb2 K0 r0 r1 r2 r3; have r2 := T2.out.cell 2; have r3 := T2.out.cell 3
   go_wp2_with fail
   refine (KA w2 B2.out).out.mono ?_
   rintro e w3 ⟨v3, rfl, hO3, hb3⟩
   have B3 := hid (B2.out.trans (hb3.mono B2.out.size)); have R3 := hid (R2.out.below hb3 R2.out.lt); obtain ⟨a3, c3, hv3, hN3⟩ := hO3.rns (HES.out w3 B3.out); subst hv3; have K3 := KF a3 c3 w3 hN3; clear hO3 hb3 hN3 r2 r3 KA KF
   go_wp2_with fail
   refine K3.out.mono ?_
   rintro e w4 ⟨⟨x, rfl, hx, hx1, hx2⟩, hb4⟩
   have B4 := hid (B3.out.trans (hb4.mono B3.out.size)); have R4 := hid (R3.out.below hb4 R3.out.lt); obtain ⟨X0, X1, X2, X3⟩ := x; dsimp only at hx1 hx2 ⊢; have K4 := hid (iCopyE X0 X1 X2 X3 hx1 hx2 w4); have HX := hid hx; clear hx hb4 K3
   go_wp2_with fail
   refine K4.out.mono ?_
   rintro e w5 ⟨rfl, hb5⟩
   have B5 := hid (B4.out.trans (hb5.mono B4.out.size)); have R5 := hid (R4.out.below hb5 R4.out.lt); clear hb5 K4
   go_wp2_with (refine wpList_store_row rfl 46 (.tmp 6) (.tmp 19) rfl (w.heap.size + 1) #[.string X0, .int .i64 X1, .bool X2, .string X3] rfl rfl _ _ R5.out (by kernel_rfl) rfl (oneEn4 _ _ _ _) ?_)
   exact fe_ret (P := fun x _ => FnR s f n0 o0 m R key seq x) (R5.out.setRow _) HX.out (below_setRow B5.out _ _ (by omega)) rfl
 · rw [tabV_no ht] at K0
   have HX : Hid (FnR s f n0 o0 m R key seq en0) := .inl ⟨ht, rfl⟩; clear ht h0 h hA hs hz
   go_enter Tryz.func14, Tryz.ntmps14
   go_upto_region 1 with fail
   rw [← hW1]; clear hW1
   go_wp2_with fail
   refine K0.out.mono ?_
   rintro e w2 ⟨rfl, hb2⟩
   have R2 := hid (R1.out.below hb2 R1.out.lt); have B2 := hid (B1.out.trans (hb2.mono B1.out.size)); clear hb2 K0 r0 r1 r2 r3
   go_wp2_with (refine wpList_store_row rfl 46 (.tmp 6) (.tmp 10) rfl (w.heap.size + 1) #[.string ⟨#[]⟩, .int .i64 0, .bool false, .string ⟨#[]⟩] rfl rfl _ _ R2.out (by kernel_rfl) rfl (oneEn4 _ _ _ _) ?_)
   exact fe_ret (P := fun x _ => FnR s f n0 o0 m R key seq x) (R2.out.setRow _) HX.out (below_setRow B2.out _ _ (by omega)) rfl
end Go.Proofs.YtcbmgpdpjagaoaaGreat
