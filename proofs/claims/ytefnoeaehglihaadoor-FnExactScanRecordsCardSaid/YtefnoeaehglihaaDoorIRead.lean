import Derived.Test.YtefnoeaehglihaaDoorISums3
import Derived.Test.YtefnoeaehglihaaDoorErrIs
import Derived.Deep.QuietTactic
namespace Go.Proofs.YtefnoeaehglihaaDoor
open Go.RowKit
/-! The program's reader: read. -/
def isF7 (v : Value) : Prop := ∃ (c0 c1 : Int) (g : Bool) (c3 c4 c5 c6 : Int), v = .agg #[.int .i64 c0, .int .i64 c1, .bool g, .int .i64 c3, .int .i64 c4, .int .i64 c5, .int .i64 c6]
def ReadP (s : ByteArray) (p : Int) (ea eb : Addr) (e : Ending) : Prop :=
  (¬ Marked s p ∧ e = .returned (.tuple #[frm0, errV ea])) ∨ (getRec s p = none ∧ ∃ v, isF7 v ∧ e = .returned (.tuple #[v, errV eb])) ∨
  (∃ f, getRec s p = some f ∧ e = .returned (.tuple #[frmV f, .nilIface]))
def TblE (base R : Nat) (s : ByteArray) (M : Nat → Prop) (w w' : World) : Prop := ∃ hv pv n m, Tbl base R s w' hv pv n m ∧ Step M w (Mine R hv pv) w'
theorem tblE_below {base R : Nat} {s : ByteArray} {w w' : World} {hv pv : Value} {n m : Nat} (T : Tbl base R s w hv pv n m) (hb : Below w.heap.size w w') : TblE base R s (Mine R hv pv) w w' := ⟨_, _, _, _, T.far hb, Step.of_below hb⟩
theorem tblE_grown {base R RB : Nat} {s : ByteArray} {M : Nat → Prop} {w X Y : World} {hv pv : Value} {n m : Nat} (T : Tbl base R s X hv pv n m) (S : Step M w (Mine R hv pv) X) (hg : X.grownBy Y (some RB)) (hn : ¬ Mine R hv pv RB) (hlo : w.heap.size ≤ RB) : TblE base R s M w Y :=
  ⟨hv, pv, n, m, ⟨T.blk.far hg T.blk.lt (fun q => hn (Or.inl (Option.some.inj q).symm)), T.lo, Nat.le_trans T.bs hg.size, World.ownsRow.kept T.hh hg (Or.inr fun q => hn (Or.inr (Or.inl q))), World.ownsRow.kept T.hp hg (Or.inr fun q => hn (Or.inr (Or.inr q))), T.sep, T.hn, T.hm⟩,
    ⟨hg.os.trans S.os, hg.tape.trans S.tape, hg.output.trans S.output, Nat.le_trans S.size hg.size, fun b hb hm => (hg.block b (Nat.lt_of_lt_of_le hb S.size) (fun q => by cases q; omega)).trans (S.block b hb hm), S.own⟩⟩
def ErrsLo (R : Nat) (ea eb : Addr) : Prop := 1 < R ∧ ea.block < R ∧ eb.block < R
theorem Errs.step {w w' : World} {ea eb : Addr} {R : Nat} {M M' : Nat → Prop} (h : Errs w ea eb) (S : Step M w M' w') (hl : ErrsLo R ea eb) (hm : ∀ b, M b → R ≤ b) : Errs w' ea eb := by
  obtain ⟨l1, l2, l3⟩ := hl
  obtain ⟨c1, t1, r1⟩ := h.rowA
  obtain ⟨c2, t2, r2⟩ := h.rowB
  have h2 := h.two
  have key : ∀ b, b < w.heap.size → b < R → w'.heap[b]? = w.heap[b]? := fun b hb hr => S.block b hb (fun q => by have := hm b q; omega)
  have cc : ∀ b, b < w.heap.size → b < R → w'.cell? ⟨b, 0, none⟩ = w.cell? ⟨b, 0, none⟩ := fun b hb hr => by simp only [World.cell?, key b hb hr]
  exact ⟨(cc _ (by omega) (by omega)).trans h.mark, (cc _ (by omega) (by omega)).trans h.bent, Nat.lt_of_lt_of_le h2 S.size, h.ne, ⟨c1, t1, (key _ (heap_lt r1) l2).trans r1⟩, ⟨c2, t2, (key _ (heap_lt r2) l3).trans r2⟩⟩
set_option maxRecDepth 20000 in
set_option maxHeartbeats 4000000 in
theorem read_all (base R : Nat) (s : ByteArray) (p : Int) (hs : s.size ≤ 400000) (ea eb : Addr) (hv pv : Value) (n m : Nat) (w : World) (hE : Errs w ea eb) (hlo : ErrsLo R ea eb) (T : Tbl base R s w hv pv n m) :
    Calls Tryd.prog 52 #[.pointer (some ⟨R, 0, none⟩), .int .i64 p] w fun e w' => ReadP s p ea eb e ∧ TblE base R s (Mine R hv pv) w w' := by
  have HT0 := hid T
  have HE0 := hid hE
  have hE0 : Errs (w.alloc (.cells #[.int .i64 0, .int .i64 0, .bool false, .int .i64 0, .int .i64 0, .int .i64 0, .int .i64 0] 56)) ea eb := hE.below ((Below.refl _ _).alloc (Nat.le_refl _) _)
  have r0 : w.cell? ⟨R, 0, none⟩ = some (.string s) := T.blk.cell 0 _ rfl
  have Rlt : R < w.heap.size := T.blk.lt
  have nJ : Hid (¬ Mine R hv pv w.heap.size) := fun q => by have := T.mine_lt q; omega
  clear T
  go_enter Tryd.func52, Tryd.ntmps52
  go_wp2_with fail
  refine (frameAt_all s p (by omega) _ ea eb hE0).mono ?_
  rintro e w1 ⟨hp, hb1⟩
  have hB1 : Blk w1 w.heap.size #[.int .i64 0, .int .i64 0, .bool false, .int .i64 0, .int .i64 0, .int .i64 0, .int .i64 0] 56 := (hb1.block _ (by simp)).trans (Blk.made w _ _)
  have hz : w.heap.size < w1.heap.size := hB1.lt
  have HB : Hid (Below w.heap.size w w1) := ((Below.refl _ _).alloc (Nat.le_refl _) _).trans (hb1.mono (by simp))
  have HE1 := hid (hE.below HB.out)
  clear hb1 hE0 hE
  have q0 := hB1.cell 0 _ rfl
  have f0 := hB1.free 0
  have q1 := hB1.cell 1 _ rfl
  have f1 := hB1.free 1
  have q2 := hB1.cell 2 _ rfl
  have f2 := hB1.free 2
  have q3 := hB1.cell 3 _ rfl
  have f3 := hB1.free 3
  have q4 := hB1.cell 4 _ rfl
  have f4 := hB1.free 4
  have q5 := hB1.cell 5 _ rfl
  have f5 := hB1.free 5
  have q6 := hB1.cell 6 _ rfl
  have f6 := hB1.free 6
  rcases hp with ⟨hm, rfl⟩ | ⟨hm, hn, rfl⟩ | ⟨f, hm, hn, rfl⟩
  · have HM := hid hm
    clear hm
    unfold frm0 errV
    have nn : ∀ wx (x : Value), (binOp .eql 58 (.iface 119 x) .nilIface).run Tryd.prog wx = .ok (.bool false) wx := fun wx x => run_eql_held_nil wx _ _ x (by kernel_rfl)
    go_wp2_with fail
    go_quiet (fail)
    go_wp2
    refine bodyPost_ret (v := .tuple #[frm0, errV ea]) (by simp [results, Tryd.results52, go_sem, frm0, errV, hz, q0, q1, q2, q3, q4, q5, q6]) rfl ⟨Or.inl ⟨HM.out, rfl⟩, tblE_below HT0.out ?_⟩
    repeat (first | with_reducible exact HB.out | with_reducible refine Below.drew ?_ | with_reducible refine below_drewN ?_ | with_reducible refine Below.setCell ?_ (by simp) _ | with_reducible refine Below.setCell ?_ (by simp; omega) _ | with_reducible refine Below.alloc ?_ (by first | omega | (simp; done) | (simp; omega)) _)
  · have HM : Hid (getRec s p = none) := by show _ = _; unfold getRec; rw [if_pos hm, hn]
    clear hm hn
    unfold frm0 errV
    have nn : ∀ wx (x : Value), (binOp .eql 58 (.iface 119 x) .nilIface).run Tryd.prog wx = .ok (.bool false) wx := fun wx x => run_eql_held_nil wx _ _ x (by kernel_rfl)
    go_wp2_with fail
    go_quiet (fail)
    go_wp2
    refine bodyPost_ret (v := .tuple #[frm0, errV eb]) (by simp [results, Tryd.results52, go_sem, frm0, errV, hz, q0, q1, q2, q3, q4, q5, q6]) rfl ⟨Or.inr (Or.inl ⟨HM.out, frm0, ⟨_, _, _, _, _, _, _, rfl⟩, rfl⟩), tblE_below HT0.out ?_⟩
    repeat (first | with_reducible exact HB.out | with_reducible refine Below.drew ?_ | with_reducible refine below_drewN ?_ | with_reducible refine Below.setCell ?_ (by simp) _ | with_reducible refine Below.setCell ?_ (by simp; omega) _ | with_reducible refine Below.alloc ?_ (by first | omega | (simp; done) | (simp; omega)) _)
  · have FI := frm_in s _ f hn
    have EG : Hid (getRec s p = if sumOf (s.extract f.at' (f.next - 4)) 5 = sum4 s (f.next - 4) then some f else none) := by show _ = _; unfold getRec; rw [if_pos hm, hn]
    have S1 := fun w => hid (iSummed f (by omega) (by omega) w)
    have OF := fun w T => hid (of_all base R s f.at' (f.next - 4 - f.at') (by omega) (by omega) (by omega) hv pv n m w T)
    rw [show f.at' + (f.next - 4 - f.at') = f.next - 4 by omega] at OF
    have T1 := fun w => hid (iSum f s (by omega) (by omega) (by omega) w)
    clear hm hn FI q0 q1 q2 q3 q4 q5 q6 f0 f1 f2 f3 f4 f5 f6
    obtain ⟨ka, ks, g, ba, bs, a, n9⟩ := f
    unfold frmV at *
    simp only at *
    obtain ⟨X, hX⟩ : ∃ X, X = s.extract a (n9 - 4) := ⟨_, rfl⟩
    obtain ⟨L, hL⟩ : ∃ L, L = n9 - 4 - a := ⟨_, rfl⟩
    obtain ⟨y, hy⟩ : ∃ y, y = sum4 s (n9 - 4) := ⟨_, rfl⟩
    rw [← hX] at OF EG
    rw [← hL] at S1 OF
    rw [← hy] at T1 EG
    obtain ⟨x, hx⟩ : ∃ x, x = sumOf X 5 := ⟨_, rfl⟩
    rw [← hx] at OF EG
    clear hX hL hy hx
    have nn : ∀ wx, (binOp .eql 58 .nilIface .nilIface).run Tryd.prog wx = .ok (.bool true) wx := fun wx => run_eql_nil_nil wx _ (by kernel_rfl)
    have hF := Blk.made w1 #[.int .i64 (ka : Nat), .int .i64 (ks : Nat), .bool g, .int .i64 (ba : Nat), .int .i64 (bs : Nat), .int .i64 (a : Nat), .int .i64 (n9 : Nat)] 56
    have hJ := hB1.past hz (.cells #[.int .i64 (ka : Nat), .int .i64 (ks : Nat), .bool g, .int .i64 (ba : Nat), .int .i64 (bs : Nat), .int .i64 (a : Nat), .int .i64 (n9 : Nat)] 56)
    have hB2 : Below w.heap.size w (w1.alloc (.cells #[.int .i64 (ka : Nat), .int .i64 (ks : Nat), .bool g, .int .i64 (ba : Nat), .int .i64 (bs : Nat), .int .i64 (a : Nat), .int .i64 (n9 : Nat)] 56)) := HB.out.alloc (by omega) _
    have HT := hid (HT0.out.far hB2)
    have hS : Hid (Step (Mine R hv pv) w (Mine R hv pv) (w1.alloc (.cells #[.int .i64 (ka : Nat), .int .i64 (ks : Nat), .bool g, .int .i64 (ba : Nat), .int .i64 (bs : Nat), .int .i64 (a : Nat), .int .i64 (n9 : Nat)] 56))) := Step.of_below hB2
    have r1 : (w1.alloc (.cells #[.int .i64 (ka : Nat), .int .i64 (ks : Nat), .bool g, .int .i64 (ba : Nat), .int .i64 (bs : Nat), .int .i64 (a : Nat), .int .i64 (n9 : Nat)] 56)).cell? ⟨R, 0, none⟩ = some (.string s) := HT.out.blk.cell 0 _ rfl
    have nF : Hid (¬ Mine R hv pv w1.heap.size) := fun q => by have := HT0.out.mine_lt q; omega
    have HZ := hid hz
    clear hB2 HB hB1
    by_cases hxy : x = y
    · have E : Hid (getRec s p = some ⟨ka, ks, g, ba, bs, a, n9⟩) := by show _ = _; rw [EG.out, if_pos hxy]
      have d : (x != y) = false := by simp [hxy]
      have HXY := hid hxy
      clear EG hxy
      go_wp2_with fail
      go_region_held3 (fun wx => ((wx.cell? ⟨w1.heap.size, 0, none⟩ = some (.int .i64 (ka : Nat)) ∧ wx.cell? ⟨w1.heap.size, 1, none⟩ = some (.int .i64 (ks : Nat))) ∧ wx.cell? ⟨w1.heap.size, 2, none⟩ = some (.bool g)) ∧ (wx.cell? ⟨w1.heap.size, 3, none⟩ = some (.int .i64 (ba : Nat)) ∧ wx.cell? ⟨w1.heap.size, 4, none⟩ = some (.int .i64 (bs : Nat))) ∧ (wx.cell? ⟨w1.heap.size, 5, none⟩ = some (.int .i64 (a : Nat)) ∧ wx.cell? ⟨w1.heap.size, 6, none⟩ = some (.int .i64 (n9 : Nat))) ∧ wx.cell? ⟨R, 0, none⟩ = some (.string s)) (first | exact ⟨⟨⟨hF.cell 0 _ rfl, hF.cell 1 _ rfl⟩, hF.cell 2 _ rfl⟩, ⟨hF.cell 3 _ rfl, hF.cell 4 _ rfl⟩, ⟨hF.cell 5 _ rfl, hF.cell 6 _ rfl⟩, HT.out.blk.cell 0 _ rfl⟩ | (go_keep; done))
        (((first
          | (go_at_call 32; refine (S1 _).out.mono ?_; rintro e v1 ⟨rfl, hb⟩; replace hJ := Blk.next hb hJ; replace hF := Blk.next hb hF; (first | replace HT := hid (HT.out.far hb) | replace HT := hid (HT.out.drew.far hb)); (first | replace hS := hid (hS.out.trans (Step.of_below hb)) | replace hS := hid (hS.out.drew.trans (Step.of_below hb))))
          | (go_at_call 57; refine (OF _ (by first | exact HT.out | exact HT.out.drew)).out.mono ?_; rintro e v2 ⟨rfl, hv2, pv2, n2, m2, T2, S2⟩; have nJ2 : Hid (¬ Mine R hv2 pv2 w.heap.size) := (fun q => (S2.own _ q).elim nJ.out (fun r => absurd hJ.lt (Nat.not_lt.2 r))); replace hJ := S2.blk hJ nJ.out; replace hF := S2.blk hF nF.out; (first | replace hS := hid (hS.out.trans S2) | replace hS := hid (hS.out.drew.trans S2)); replace HT := hid T2; clear T2 S2)
          | (go_at_call 34; refine (T1 _).out.mono ?_; rintro e v1 ⟨rfl, hb⟩; replace hJ := Blk.next hb hJ; replace hF := Blk.next hb hF; (first | replace HT := hid (HT.out.far hb) | replace HT := hid (HT.out.drew.far hb)); (first | replace hS := hid (hS.out.trans (Step.of_below hb)) | replace hS := hid (hS.out.drew.trans (Step.of_below hb)))))))
      have q0 := hJ.cell 0 _ rfl; have q1 := hJ.cell 1 _ rfl; have q2 := hJ.cell 2 _ rfl; have q3 := hJ.cell 3 _ rfl; have q4 := hJ.cell 4 _ rfl; have q5 := hJ.cell 5 _ rfl; have q6 := hJ.cell 6 _ rfl; have f0 := hJ.free 0; have f1 := hJ.free 1; have f2 := hJ.free 2; have f3 := hJ.free 3; have f4 := hJ.free 4; have f5 := hJ.free 5; have f6 := hJ.free 6
      have b0 := hF.cell 0 _ rfl
      have b1 := hF.cell 1 _ rfl
      have b2 := hF.cell 2 _ rfl
      have b3 := hF.cell 3 _ rfl
      have b4 := hF.cell 4 _ rfl
      have b5 := hF.cell 5 _ rfl
      have b6 := hF.cell 6 _ rfl
      clear hb
      go_wp2
      refine bodyPost_ret (v := .tuple #[.agg #[.int .i64 (ka : Nat), .int .i64 (ks : Nat), .bool g, .int .i64 (ba : Nat), .int .i64 (bs : Nat), .int .i64 (a : Nat), .int .i64 (n9 : Nat)], .nilIface]) (by simp [results, Tryd.results52, go_sem, q0, q1, q2, q3, q4, q5, q6]) rfl ⟨Or.inr (Or.inr ⟨_, E.out, rfl⟩), tblE_grown HT.out hS.out ?_ nJ2.out (Nat.le_refl _)⟩
      exact grown_trans (grown_trans (grown_trans (grown_trans (grown_trans (grown_trans grown_set grown_set) grown_set) grown_set) grown_set) grown_set) grown_set
    · have E : Hid (getRec s p = none) := by show _ = _; rw [EG.out, if_neg hxy]
      have d : (x != y) = true := by simp [hxy]
      have HXY := hid hxy
      clear EG hxy
      go_wp2_with fail
      go_region_held3 (fun wx => ((wx.cell? ⟨w1.heap.size, 0, none⟩ = some (.int .i64 (ka : Nat)) ∧ wx.cell? ⟨w1.heap.size, 1, none⟩ = some (.int .i64 (ks : Nat))) ∧ wx.cell? ⟨w1.heap.size, 2, none⟩ = some (.bool g)) ∧ (wx.cell? ⟨w1.heap.size, 3, none⟩ = some (.int .i64 (ba : Nat)) ∧ wx.cell? ⟨w1.heap.size, 4, none⟩ = some (.int .i64 (bs : Nat))) ∧ (wx.cell? ⟨w1.heap.size, 5, none⟩ = some (.int .i64 (a : Nat)) ∧ wx.cell? ⟨w1.heap.size, 6, none⟩ = some (.int .i64 (n9 : Nat))) ∧ wx.cell? ⟨R, 0, none⟩ = some (.string s)) (first | exact ⟨⟨⟨hF.cell 0 _ rfl, hF.cell 1 _ rfl⟩, hF.cell 2 _ rfl⟩, ⟨hF.cell 3 _ rfl, hF.cell 4 _ rfl⟩, ⟨hF.cell 5 _ rfl, hF.cell 6 _ rfl⟩, HT.out.blk.cell 0 _ rfl⟩ | (go_keep; done))
        (((first
          | (go_at_call 32; refine (S1 _).out.mono ?_; rintro e v1 ⟨rfl, hb⟩; replace hJ := Blk.next hb hJ; replace hF := Blk.next hb hF; (first | replace HT := hid (HT.out.far hb) | replace HT := hid (HT.out.drew.far hb)); (first | replace hS := hid (hS.out.trans (Step.of_below hb)) | replace hS := hid (hS.out.drew.trans (Step.of_below hb))))
          | (go_at_call 57; refine (OF _ (by first | exact HT.out | exact HT.out.drew)).out.mono ?_; rintro e v2 ⟨rfl, hv2, pv2, n2, m2, T2, S2⟩; have nJ2 : Hid (¬ Mine R hv2 pv2 w.heap.size) := (fun q => (S2.own _ q).elim nJ.out (fun r => absurd hJ.lt (Nat.not_lt.2 r))); replace hJ := S2.blk hJ nJ.out; replace hF := S2.blk hF nF.out; (first | replace hS := hid (hS.out.trans S2) | replace hS := hid (hS.out.drew.trans S2)); replace HT := hid T2; clear T2 S2)
          | (go_at_call 34; refine (T1 _).out.mono ?_; rintro e v1 ⟨rfl, hb⟩; replace hJ := Blk.next hb hJ; replace hF := Blk.next hb hF; (first | replace HT := hid (HT.out.far hb) | replace HT := hid (HT.out.drew.far hb)); (first | replace hS := hid (hS.out.trans (Step.of_below hb)) | replace hS := hid (hS.out.drew.trans (Step.of_below hb)))))))
      have q0 := hJ.cell 0 _ rfl; have q1 := hJ.cell 1 _ rfl; have q2 := hJ.cell 2 _ rfl; have q3 := hJ.cell 3 _ rfl; have q4 := hJ.cell 4 _ rfl; have q5 := hJ.cell 5 _ rfl; have q6 := hJ.cell 6 _ rfl; have f0 := hJ.free 0; have f1 := hJ.free 1; have f2 := hJ.free 2; have f3 := hJ.free 3; have f4 := hJ.free 4; have f5 := hJ.free 5; have f6 := hJ.free 6
      have b0 := hF.cell 0 _ rfl
      have b1 := hF.cell 1 _ rfl
      have b2 := hF.cell 2 _ rfl
      have b3 := hF.cell 3 _ rfl
      have b4 := hF.cell 4 _ rfl
      have b5 := hF.cell 5 _ rfl
      have b6 := hF.cell 6 _ rfl
      have e1 := (HE0.out.step hS.out hlo (fun b q => HT0.out.mine_lo q)).bent
      clear hb
      go_wp2
      refine bodyPost_ret (v := .tuple #[.agg #[.int .i64 (ka : Nat), .int .i64 (ks : Nat), .bool g, .int .i64 (ba : Nat), .int .i64 (bs : Nat), .int .i64 (a : Nat), .int .i64 (n9 : Nat)], errV eb]) (by simp [results, Tryd.results52, go_sem, errV, q0, q1, q2, q3, q4, q5, q6]) rfl ⟨Or.inr (Or.inl ⟨E.out, _, ⟨_, _, _, _, _, _, _, rfl⟩, rfl⟩), tblE_grown HT.out hS.out ?_ nJ2.out (Nat.le_refl _)⟩
      exact grown_trans (grown_trans (grown_trans (grown_trans (grown_trans (grown_trans grown_set grown_set) grown_set) grown_set) grown_set) grown_set) grown_set
end Go.Proofs.YtefnoeaehglihaaDoor
