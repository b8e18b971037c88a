import Derived.Test.YteeadhcfippilaaDoorIGet
import Derived.Test.YteeadhcfippilaaDoorClone
import Derived.Deep.QuietTactic
namespace Go.Proofs.YteeadhcfippilaaDoor
open Go.RowKit
/-! The program's frame.record, GetRecord. -/
theorem Blk.next {X w1 : World} {b : Nat} {cs : Array Value} {t : TypeId} (hb : Below X.heap.size X w1) (h : Blk X b cs t) : Blk w1 b cs t := (hb.block _ h.lt).trans h
theorem below_next {n : Nat} {w X w1 : World} (hb : Below X.heap.size X w1) (h : Hid (Below n w X)) (hn : Hid (n ≤ X.heap.size)) : Hid (Below n w w1) := h.out.trans (hb.mono hn.out)
theorem Below.of_eq {X w1 : World} (h : w1 = X) : Below X.heap.size X w1 := by subst h; exact Below.refl _ _
theorem below_drewN {n k : Nat} {w X : World} (h : Below n w X) : Below n w (X.drewN k) := ⟨h.os, h.tape, h.output, h.size, h.block⟩
theorem hid_drew {n : Nat} {w X : World} (h : Hid (Below n w X)) : Hid (Below n w X.drew) := h.out.drew
theorem size_next {n : Nat} {X w1 : World} (hb : Below X.heap.size X w1) (hn : Hid (n ≤ X.heap.size)) : Hid (n ≤ w1.heap.size) := Nat.le_trans hn.out hb.size
def fcells (f : Fr) : Array Value := #[.int .i64 (f.kat : Nat), .int .i64 (f.ksz : Nat), .bool f.gone, .int .i64 (f.bat : Nat), .int .i64 (f.bsz : Nat), .int .i64 (f.at' : Nat), .int .i64 (f.next : Nat)]
def rc0 : Array Value := #[.string ⟨#[]⟩, .bool false, .string ⟨#[]⟩, .int .i64 0, .int .i64 0]
set_option maxRecDepth 20000 in
set_option maxHeartbeats 2000000 in
theorem iRecord (f : Fr) (s : ByteArray) (h1 : f.kat + f.ksz ≤ s.size) (h2 : f.bat + f.bsz ≤ s.size) (hs : s.size ≤ 1048576) (w : World) :
    Calls Tryd.prog 27 #[frmV f, .string s] w fun e w' => e = .returned (recordV s (some f)) ∧ Below w.heap.size w w' := by
  obtain ⟨ka, ks, g, ba, bs, a, n⟩ := f
  simp only at h1 h2
  unfold frmV recordV rcK rcD rcG rcA rcN
  simp only
  have O1 := fun w => hid (iOf s ka ks hs h1 w)
  have O2 := fun w => hid (iOf s ba bs hs h2 w)
  have z1 : (s.extract ka (ka + ks)).size ≤ 281474976710656 := by rw [ex_size s _ _ h1]; omega
  have z2 : (s.extract ba (ba + bs)).size ≤ 281474976710656 := by rw [ex_size s _ _ h2]; omega
  have C1 := fun w => hid (clone_any (s.extract ka (ka + ks)) w z1)
  have C2 := fun w => hid (clone_any (s.extract ba (ba + bs)) w z2)
  obtain ⟨kt, hkt⟩ : ∃ t, t = s.extract ka (ka + ks) := ⟨_, rfl⟩
  obtain ⟨dt, hdt⟩ : ∃ t, t = s.extract ba (ba + bs) := ⟨_, rfl⟩
  rw [← hkt] at O1 C1 ⊢
  rw [← hdt] at O2 C2 ⊢
  clear hkt hdt z1 z2 h1 h2
  have hF0 := Blk.made w #[.int .i64 (ka : Nat), .int .i64 (ks : Nat), .bool g, .int .i64 (ba : Nat), .int .i64 (bs : Nat), .int .i64 (a : Nat), .int .i64 (n : Nat)] 47
  have hJ := Blk.made (w.alloc (.cells #[.int .i64 (ka : Nat), .int .i64 (ks : Nat), .bool g, .int .i64 (ba : Nat), .int .i64 (bs : Nat), .int .i64 (a : Nat), .int .i64 (n : Nat)] 47)) #[.string ⟨#[]⟩, .bool false, .string ⟨#[]⟩, .int .i64 0, .int .i64 0] 28
  rw [World.size_alloc] at hJ
  have hF := hF0.past (by simp) (.cells #[.string ⟨#[]⟩, .bool false, .string ⟨#[]⟩, .int .i64 0, .int .i64 0] 28)
  have hW : Hid (Below w.heap.size w ((w.alloc (.cells #[.int .i64 (ka : Nat), .int .i64 (ks : Nat), .bool g, .int .i64 (ba : Nat), .int .i64 (bs : Nat), .int .i64 (a : Nat), .int .i64 (n : Nat)] 47)).alloc (.cells #[.string ⟨#[]⟩, .bool false, .string ⟨#[]⟩, .int .i64 0, .int .i64 0] 28))) := ((Below.refl _ _).alloc (Nat.le_refl _) _).alloc (by simp) _
  have hN : Hid (w.heap.size ≤ ((w.alloc (.cells #[.int .i64 (ka : Nat), .int .i64 (ks : Nat), .bool g, .int .i64 (ba : Nat), .int .i64 (bs : Nat), .int .i64 (a : Nat), .int .i64 (n : Nat)] 47)).alloc (.cells #[.string ⟨#[]⟩, .bool false, .string ⟨#[]⟩, .int .i64 0, .int .i64 0] 28)).heap.size) := by show _ ≤ _; simp; omega
  clear hF0
  have nq : ¬ w.heap.size + 1 = w.heap.size := by omega
  have nq' : w.heap.size + 1 ≠ w.heap.size := by omega
  go_enter Tryd.func27, Tryd.ntmps27
  go_wp2_with fail
  go_region_held3 (fun wx => ((wx.cell? ⟨w.heap.size, 0, none⟩ = some (.int .i64 (ka : Nat)) ∧ wx.cell? ⟨w.heap.size, 1, none⟩ = some (.int .i64 (ks : Nat))) ∧ wx.cell? ⟨w.heap.size, 2, none⟩ = some (.bool g)) ∧ (wx.cell? ⟨w.heap.size, 3, none⟩ = some (.int .i64 (ba : Nat)) ∧ wx.cell? ⟨w.heap.size, 4, none⟩ = some (.int .i64 (bs : Nat))) ∧ wx.cell? ⟨w.heap.size, 5, none⟩ = some (.int .i64 (a : Nat)) ∧ wx.cell? ⟨w.heap.size, 6, none⟩ = some (.int .i64 (n : Nat)))
    (first | (go_keep; done) | exact ⟨⟨⟨hF.cell 0 _ rfl, hF.cell 1 _ rfl⟩, hF.cell 2 _ rfl⟩, ⟨hF.cell 3 _ rfl, hF.cell 4 _ rfl⟩, hF.cell 5 _ rfl, hF.cell 6 _ rfl⟩ | exact ⟨⟨⟨far_set nq' (far_set nq' (far_set nq' (far_set nq' (far_set nq' (hF.cell 0 _ rfl))))), far_set nq' (far_set nq' (far_set nq' (far_set nq' (far_set nq' (hF.cell 1 _ rfl)))))⟩, far_set nq' (far_set nq' (far_set nq' (far_set nq' (far_set nq' (hF.cell 2 _ rfl)))))⟩, ⟨far_set nq' (far_set nq' (far_set nq' (far_set nq' (far_set nq' (hF.cell 3 _ rfl))))), far_set nq' (far_set nq' (far_set nq' (far_set nq' (far_set nq' (hF.cell 4 _ rfl)))))⟩, far_set nq' (far_set nq' (far_set nq' (far_set nq' (far_set nq' (hF.cell 5 _ rfl))))), far_set nq' (far_set nq' (far_set nq' (far_set nq' (far_set nq' (hF.cell 6 _ rfl)))))⟩)
    (((first
      | (go_at_call_of 25 (Value.agg #[Value.int IntKind.i64 (ka : Nat), Value.int IntKind.i64 (ks : Nat)]); refine (O1 _).out.mono ?_)
      | (go_at_call_of 25 (Value.agg #[Value.int IntKind.i64 (ba : Nat), Value.int IntKind.i64 (bs : Nat)]); refine (O2 _).out.mono ?_)
      | (go_at_call_of 38 (Value.string kt); refine (C1 _).out.mono ?_)
      | (go_at_call_of 38 (Value.string dt); refine (C2 _).out.mono ?_)); rintro e w1 ⟨rfl, hb⟩; replace hJ := Blk.next hb hJ; replace hF := Blk.next hb hF; (first | replace hW := below_next hb hW hN | replace hW := below_next hb (hid_drew hW) hN); replace hN := size_next hb hN; have q0 := hJ.cell 0 _ rfl; have q1 := hJ.cell 1 _ rfl; have q2 := hJ.cell 2 _ rfl; have q3 := hJ.cell 3 _ rfl; have q4 := hJ.cell 4 _ rfl; have f0 := hJ.free 0; have f1 := hJ.free 1; have f2 := hJ.free 2; have f3 := hJ.free 3; have f4 := hJ.free 4))
  all_goals go_wp2
  all_goals (
    refine bodyPost_ret (v := .agg #[.string kt, .bool g, .string dt, .int .i64 (a : Nat), .int .i64 (n : Nat)]) (by simp [results, Tryd.results27, go_sem, q0, q1, q2, q3, q4]) rfl ⟨rfl, ?_⟩
    repeat (first | with_reducible exact hW.out | with_reducible refine Below.drew ?_ | with_reducible refine Below.setCell ?_ (by simp) _ | with_reducible refine Below.setCell ?_ (by simp; omega) _ | with_reducible refine Below.alloc ?_ (by first | omega | (simp; done) | (simp; omega)) _))
theorem head_in (s : ByteArray) (p ka ks : Nat) (g : Bool) (h : headN s p = some (ka, ks, g)) : p < ka ∧ ka + ks < s.size ∧ 0 < ks ∧ ks ≤ 200 := by
  unfold headN at h
  split at h
  · cases h
  · rename_i ka' ks' hq
    obtain ⟨i1, i2, i3, _⟩ := span_in s _ _ _ _ hq
    split at h
    · cases h
    · rename_i hc
      have e := Option.some.inj h
      obtain ⟨rfl, e2⟩ := Prod.mk.inj e
      obtain ⟨rfl, _⟩ := Prod.mk.inj e2
      omega
theorem frm_in (s : ByteArray) (p : Nat) (f : Fr) (h : frmN s p = some f) : f.at' = p ∧ p < f.kat ∧ 0 < f.ksz ∧ f.ksz ≤ 200 ∧ f.kat + f.ksz < f.bat ∧ f.bsz ≤ 100000 ∧ f.next = f.bat + f.bsz + 4 ∧ f.next ≤ s.size := by
  unfold frmN at h
  split at h
  · cases h
  · rename_i ka ks g hq
    have i1 := head_in s _ _ _ _ hq
    split at h
    · cases h
    · rename_i ba bs hr
      obtain ⟨j1, j2, j3, _⟩ := span_in s _ _ _ _ hr
      split at h
      · cases h
      · rename_i hc
        have e := Option.some.inj h
        subst e
        refine ⟨rfl, by show p < ka; omega, by show 0 < ks; omega, by show ks ≤ 200; omega, by show ka + ks < ba; omega, j3, rfl, ?_⟩
        show ba + bs + 4 ≤ s.size
        rcases Nat.lt_or_ge s.size (ba + bs + 4) with q | q
        · exact absurd (Or.inr q) hc
        · exact q
set_option maxRecDepth 20000 in
set_option maxHeartbeats 2000000 in
theorem iGetRec (s : ByteArray) (p : Int) (hs : s.size ≤ 1048576) (w : World) (ea eb : Addr) (hE : Errs w ea eb) :
    Calls Tryd.prog 8 #[.string s, .int .i64 p] w fun e w' => e = .returned (recordV s (getRec s p)) ∧ Below w.heap.size w w' := by
  have hE0 : Errs (w.alloc (.cells #[.string ⟨#[]⟩, .bool false, .string ⟨#[]⟩, .int .i64 0, .int .i64 0] 28)) ea eb := hE.below ((Below.refl _ _).alloc (Nat.le_refl _) _)
  go_enter Tryd.func8, Tryd.ntmps8
  go_wp2_with fail
  refine (frameAt_all s p hs _ ea eb hE0).mono ?_
  rintro e w1 ⟨hp, hb1⟩
  have hB1 : Blk w1 w.heap.size #[.string ⟨#[]⟩, .bool false, .string ⟨#[]⟩, .int .i64 0, .int .i64 0] 28 := (hb1.block _ (by simp)).trans (Blk.made w _ _)
  have hz : w.heap.size < w1.heap.size := hB1.lt
  have HB : Hid (Below w.heap.size w w1) := ((Below.refl _ _).alloc (Nat.le_refl _) _).trans (hb1.mono (by simp))
  have q0 := hB1.cell 0 _ rfl
  have q1 := hB1.cell 1 _ rfl
  have q2 := hB1.cell 2 _ rfl
  have q3 := hB1.cell 3 _ rfl
  have q4 := hB1.cell 4 _ rfl
  have f0 := hB1.free 0
  have f1 := hB1.free 1
  have f2 := hB1.free 2
  have f3 := hB1.free 3
  have f4 := hB1.free 4
  clear hb1 hE0 hE
  rcases hp with ⟨hm, rfl⟩ | ⟨hm, hn, rfl⟩ | ⟨f, hm, hn, rfl⟩
  · have E : Hid (getRec s p = none) := by show _ = _; unfold getRec; rw [if_neg hm]
    clear hm
    unfold frm0 errV
    have nn : ∀ wx (x : Value), (binOp .neq 49 (.iface 74 x) .nilIface).run Tryd.prog wx = .ok (.bool true) wx := fun wx x => run_neq_held_nil wx _ _ x (by kernel_rfl)
    go_wp2_with fail
    go_quiet (fail)
    all_goals go_wp2
    all_goals (
      refine bodyPost_ret (v := .agg #[.string ⟨#[]⟩, .bool false, .string ⟨#[]⟩, .int .i64 0, .int .i64 0]) (by simp [results, Tryd.results8, go_sem, hz, q0, q1, q2, q3, q4]) rfl ⟨by rw [E.out]; rfl, ?_⟩
      repeat (first | with_reducible exact HB.out | with_reducible refine Below.drew ?_ | with_reducible refine below_drewN ?_ | with_reducible refine Below.setCell ?_ (by simp) _ | with_reducible refine Below.setCell ?_ (by simp; omega) _ | with_reducible refine Below.alloc ?_ (by first | omega | (simp; done) | (simp; omega)) _))
  · have E : Hid (getRec s p = none) := by show _ = _; unfold getRec; rw [if_pos hm, hn]
    clear hm hn
    unfold frm0 errV
    have nn : ∀ wx (x : Value), (binOp .neq 49 (.iface 74 x) .nilIface).run Tryd.prog wx = .ok (.bool true) wx := fun wx x => run_neq_held_nil wx _ _ x (by kernel_rfl)
    go_wp2_with fail
    go_quiet (fail)
    all_goals go_wp2
    all_goals (
      refine bodyPost_ret (v := .agg #[.string ⟨#[]⟩, .bool false, .string ⟨#[]⟩, .int .i64 0, .int .i64 0]) (by simp [results, Tryd.results8, go_sem, hz, q0, q1, q2, q3, q4]) rfl ⟨by rw [E.out]; rfl, ?_⟩
      repeat (first | with_reducible exact HB.out | with_reducible refine Below.drew ?_ | with_reducible refine below_drewN ?_ | with_reducible refine Below.setCell ?_ (by simp) _ | with_reducible refine Below.setCell ?_ (by simp; omega) _ | with_reducible refine Below.alloc ?_ (by first | omega | (simp; done) | (simp; omega)) _))
  · have FI := frm_in s _ f hn
    have EG : Hid (getRec s p = if sumOf (s.extract f.at' (f.next - 4)) 5 = sum4 s (f.next - 4) then some f else none) := by show _ = _; unfold getRec; rw [if_pos hm, hn]
    have S1 := fun w => hid (iSummed f (by omega) (by omega) w)
    have O1 := fun w => hid (iOf s f.at' (f.next - 4 - f.at') hs (by omega) w)
    rw [show f.at' + (f.next - 4 - f.at') = f.next - 4 by omega] at O1
    have M1 := fun w => hid (isum_all (s.extract f.at' (f.next - 4)) 5 (by decide) (by rw [ex_size s _ _ (by omega)]; omega) w)
    have T1 := fun w => hid (iSum f s (by omega) (by omega) hs w)
    have R1 := fun w => hid (iRecord f s (by omega) (by omega) hs w)
    clear hm hn FI
    obtain ⟨RV, hRV⟩ : ∃ V, V = recordV s (some f) := ⟨_, rfl⟩
    have HRV : Hid (RV = .agg #[.string (rcK s (some f)), .bool (rcG (some f)), .string (rcD s (some f)), .int .i64 (rcA (some f)), .int .i64 (rcN (some f))]) := hRV
    obtain ⟨ka, ks, g, ba, bs, a, n⟩ := f
    unfold frmV at *
    simp only at *
    obtain ⟨X, hX⟩ : ∃ X, X = s.extract a (n - 4) := ⟨_, rfl⟩
    obtain ⟨L, hL⟩ : ∃ L, L = n - 4 - a := ⟨_, rfl⟩
    obtain ⟨y, hy⟩ : ∃ y, y = sum4 s (n - 4) := ⟨_, rfl⟩
    rw [← hX] at O1 M1 EG
    rw [← hL] at S1 O1
    rw [← hy] at T1 EG
    obtain ⟨x, hx⟩ : ∃ x, x = sumOf X 5 := ⟨_, rfl⟩
    rw [← hx] at M1 EG
    clear hX hL hy hx
    have hF := Blk.made w1 #[.int .i64 (ka : Nat), .int .i64 (ks : Nat), .bool g, .int .i64 (ba : Nat), .int .i64 (bs : Nat), .int .i64 (a : Nat), .int .i64 (n : Nat)] 47
    have hJ := hB1.past hz (.cells #[.int .i64 (ka : Nat), .int .i64 (ks : Nat), .bool g, .int .i64 (ba : Nat), .int .i64 (bs : Nat), .int .i64 (a : Nat), .int .i64 (n : Nat)] 47)
    have hW : Hid (Below w.heap.size w (w1.alloc (.cells #[.int .i64 (ka : Nat), .int .i64 (ks : Nat), .bool g, .int .i64 (ba : Nat), .int .i64 (bs : Nat), .int .i64 (a : Nat), .int .i64 (n : Nat)] 47))) := HB.out.alloc (by omega) _
    have hN : Hid (w.heap.size ≤ (w1.alloc (.cells #[.int .i64 (ka : Nat), .int .i64 (ks : Nat), .bool g, .int .i64 (ba : Nat), .int .i64 (bs : Nat), .int .i64 (a : Nat), .int .i64 (n : Nat)] 47)).heap.size) := by show _ ≤ _; simp; omega
    clear q0 q1 q2 q3 q4 f0 f1 f2 f3 f4 hB1 HB
    have nn : ∀ wx, (binOp .neq 49 .nilIface .nilIface).run Tryd.prog wx = .ok (.bool false) wx := fun wx => run_neq_nil_nil wx _ (by kernel_rfl)
    by_cases hxy : x = y
    · have E : Hid (getRec s p = some ⟨ka, ks, g, ba, bs, a, n⟩) := by show _ = _; rw [EG.out, if_pos hxy]
      have d : (x != y) = false := by simp [hxy]
      have HXY := hid hxy
      clear EG hxy
      go_wp2_with fail
      go_region_held3 (fun wx => ((wx.cell? ⟨w1.heap.size, 0, none⟩ = some (.int .i64 (ka : Nat)) ∧ wx.cell? ⟨w1.heap.size, 1, none⟩ = some (.int .i64 (ks : Nat))) ∧ wx.cell? ⟨w1.heap.size, 2, none⟩ = some (.bool g)) ∧ (wx.cell? ⟨w1.heap.size, 3, none⟩ = some (.int .i64 (ba : Nat)) ∧ wx.cell? ⟨w1.heap.size, 4, none⟩ = some (.int .i64 (bs : Nat))) ∧ wx.cell? ⟨w1.heap.size, 5, none⟩ = some (.int .i64 (a : Nat)) ∧ wx.cell? ⟨w1.heap.size, 6, none⟩ = some (.int .i64 (n : Nat)))
        (first | (go_keep; done) | exact ⟨⟨⟨hF.cell 0 _ rfl, hF.cell 1 _ rfl⟩, hF.cell 2 _ rfl⟩, ⟨hF.cell 3 _ rfl, hF.cell 4 _ rfl⟩, hF.cell 5 _ rfl, hF.cell 6 _ rfl⟩)
        (((first
          | (go_at_call 24; refine (S1 _).out.mono ?_; rintro e v1 ⟨rfl, hb⟩)
          | (go_at_call 25; refine (O1 _).out.mono ?_; rintro e v1 ⟨rfl, hb⟩)
          | (go_at_call 17; refine (M1 _).out.mono ?_; rintro e v1 ⟨rfl, hv⟩; have hb := Below.of_eq hv; clear hv)
          | (go_at_call 26; refine (T1 _).out.mono ?_; rintro e v1 ⟨rfl, hb⟩)); replace hJ := Blk.next hb hJ; replace hF := Blk.next hb hF; (first | replace hW := below_next hb hW hN | replace hW := below_next hb (hid_drew hW) hN); replace hN := size_next hb hN))
      all_goals (
        go_wp2_with fail
        refine (R1 _).out.mono ?_
        rintro e v9 ⟨rfl, hb⟩
        replace hJ := Blk.next hb hJ
        first | replace hW := below_next hb hW hN | replace hW := below_next hb (hid_drew hW) hN
        rw [← hRV, HRV.out]
        have q0 := hJ.cell 0 _ rfl; have q1 := hJ.cell 1 _ rfl; have q2 := hJ.cell 2 _ rfl; have q3 := hJ.cell 3 _ rfl; have q4 := hJ.cell 4 _ rfl; have f0 := hJ.free 0; have f1 := hJ.free 1; have f2 := hJ.free 2; have f3 := hJ.free 3; have f4 := hJ.free 4
        clear hb
        go_wp2
        refine bodyPost_ret (v := .agg #[.string (rcK s (some ⟨ka, ks, g, ba, bs, a, n⟩)), .bool (rcG (some ⟨ka, ks, g, ba, bs, a, n⟩)), .string (rcD s (some ⟨ka, ks, g, ba, bs, a, n⟩)), .int .i64 (rcA (some ⟨ka, ks, g, ba, bs, a, n⟩)), .int .i64 (rcN (some ⟨ka, ks, g, ba, bs, a, n⟩))]) (by simp [results, Tryd.results8, go_sem, q0, q1, q2, q3, q4]) rfl ⟨by rw [E.out]; rfl, ?_⟩
        repeat (first | with_reducible exact hW.out | with_reducible refine Below.drew ?_ | with_reducible refine Below.setCell ?_ (by simp) _ | with_reducible refine Below.setCell ?_ (by simp; omega) _ | with_reducible refine Below.alloc ?_ (by first | omega | (simp; done) | (simp; omega)) _))
    · have E : Hid (getRec s p = none) := by show _ = _; rw [EG.out, if_neg hxy]
      have d : (x != y) = true := by simp [hxy]
      have HXY := hid hxy
      clear EG hxy
      go_wp2_with fail
      go_region_held3 (fun wx => ((wx.cell? ⟨w1.heap.size, 0, none⟩ = some (.int .i64 (ka : Nat)) ∧ wx.cell? ⟨w1.heap.size, 1, none⟩ = some (.int .i64 (ks : Nat))) ∧ wx.cell? ⟨w1.heap.size, 2, none⟩ = some (.bool g)) ∧ (wx.cell? ⟨w1.heap.size, 3, none⟩ = some (.int .i64 (ba : Nat)) ∧ wx.cell? ⟨w1.heap.size, 4, none⟩ = some (.int .i64 (bs : Nat))) ∧ wx.cell? ⟨w1.heap.size, 5, none⟩ = some (.int .i64 (a : Nat)) ∧ wx.cell? ⟨w1.heap.size, 6, none⟩ = some (.int .i64 (n : Nat)))
        (first | (go_keep; done) | exact ⟨⟨⟨hF.cell 0 _ rfl, hF.cell 1 _ rfl⟩, hF.cell 2 _ rfl⟩, ⟨hF.cell 3 _ rfl, hF.cell 4 _ rfl⟩, hF.cell 5 _ rfl, hF.cell 6 _ rfl⟩)
        (((first
          | (go_at_call 24; refine (S1 _).out.mono ?_; rintro e v1 ⟨rfl, hb⟩)
          | (go_at_call 25; refine (O1 _).out.mono ?_; rintro e v1 ⟨rfl, hb⟩)
          | (go_at_call 17; refine (M1 _).out.mono ?_; rintro e v1 ⟨rfl, hv⟩; have hb := Below.of_eq hv; clear hv)
          | (go_at_call 26; refine (T1 _).out.mono ?_; rintro e v1 ⟨rfl, hb⟩)); replace hJ := Blk.next hb hJ; replace hF := Blk.next hb hF; (first | replace hW := below_next hb hW hN | replace hW := below_next hb (hid_drew hW) hN); replace hN := size_next hb hN))
      all_goals (
        have q0 := hJ.cell 0 _ rfl; have q1 := hJ.cell 1 _ rfl; have q2 := hJ.cell 2 _ rfl; have q3 := hJ.cell 3 _ rfl; have q4 := hJ.cell 4 _ rfl; have f0 := hJ.free 0; have f1 := hJ.free 1; have f2 := hJ.free 2; have f3 := hJ.free 3; have f4 := hJ.free 4
        go_wp2
        refine bodyPost_ret (v := .agg #[.string ⟨#[]⟩, .bool false, .string ⟨#[]⟩, .int .i64 0, .int .i64 0]) (by simp [results, Tryd.results8, go_sem, q0, q1, q2, q3, q4]) rfl ⟨by rw [E.out]; rfl, ?_⟩
        repeat (first | with_reducible exact hW.out | with_reducible refine Below.drew ?_ | with_reducible refine Below.setCell ?_ (by simp) _ | with_reducible refine Below.setCell ?_ (by simp; omega) _ | with_reducible refine Below.alloc ?_ (by first | omega | (simp; done) | (simp; omega)) _))
end Go.Proofs.YteeadhcfippilaaDoor
