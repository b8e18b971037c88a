import Derived.Test.YtngkiokibldfjaaGreatDoorPG
import Derived.LaidEql
import Derived.Stop.Asserts
import Derived.RowKitTokens
import Derived.Test.YtngkiokibldfjaaGreatDoorPM
import Derived.Deep.QuietTactic
import Derived.Laws.Externs
import Derived.WalkMore
import Derived.ScopeJumps
namespace Go.Proofs.YtngkiokibldfjaaGreatDoor
open Go.RowKit Go.Extern.Stop Go.Stop Go.Extern
/-! errors.Is at the reader's two errors, and at none: walked as the library's worked rows are. -/
theorem Tryz.teT (v : Value) (w : World) : (Extern.ReflectliteType.typeOf #[.iface 213 v]).run Tryz.prog w = .ok (.iface 192 (.agg #[.pointer (some ⟨6, 213, none⟩)])) w := by kernel_rfl
theorem Tryz.teComp : (Tryz.prog.info? 213).map (·.comparable) = some true := by kernel_rfl
theorem Tryz.teSize : (Tryz.prog.info? 235).map (·.size) = some 1 := by kernel_rfl
theorem Tryz.teNoIs (v : Value) (xT : TypeId) (w : World) : (Instr.typeAssert (.iface 213 v) xT 194 true).run Tryz.prog w = .ok (.tuple #[.nilIface, .bool false]) w := run_typeAssert_lacksB Tryz.underlying194 (by kernel_rfl) (by kernel_rfl) v xT w
theorem Tryz.teNoU (v : Value) (xT : TypeId) (w : World) : (Instr.typeAssert (.iface 213 v) xT 197 true).run Tryz.prog w = .ok (.tuple #[.nilIface, .bool false]) w := run_typeAssert_lacksB Tryz.underlying197 (by kernel_rfl) (by kernel_rfl) v xT w
theorem Tryz.teNoV (v : Value) (xT : TypeId) (w : World) : (Instr.typeAssert (.iface 213 v) xT 199 true).run Tryz.prog w = .ok (.tuple #[.nilIface, .bool false]) w := run_typeAssert_lacksB Tryz.underlying199 (by kernel_rfl) (by kernel_rfl) v xT w
theorem Tryz.teCall (w : World) : (callFunc 157 #[.agg #[.pointer (some ⟨6, 213, none⟩)]]).run Tryz.prog w = .ok (.value (.bool true)) w := by kernel_rfl
theorem Tryz.teM (v : Value) (w : World) : (Go.method 346 192 v "Comparable").run Tryz.prog w = .ok (157, v) w := by kernel_rfl
set_option maxRecDepth 20000 in
set_option maxHeartbeats 2000000 in
theorem errIs_same (a : Addr) (w : World) :
    Calls Tryz.prog 101 #[errV a, errV a] w fun e w' => e = .returned (.bool true) ∧ w' = w := by
  unfold errV
  obtain ⟨i, hi, hcmp⟩ := Option.map_eq_some_iff.1 Tryz.teComp
  obtain ⟨j, hj, hjs⟩ := Option.map_eq_some_iff.1 Tryz.teSize
  have h8 := @run_callFunc_extern Tryz.prog 114 _ Extern.ReflectliteType.typeOf Tryz.func114 (by kernel_rfl) (by kernel_rfl) (by kernel_rfl) (by kernel_rfl)
  have h32 := Tryz.teCall
  have tT := Tryz.teT
  have mR := Tryz.teM
  have heq := run_eql_iface_ptr_same (P := Tryz.prog) w a Tryz.underlying127 Tryz.underlying213 hi hcmp hj
  go_enter Tryz.func101, Tryz.ntmps101
  go_wp2
  refine wp_loop_rounds 1 ?_
  rw [rounds_succ]
  go_wp2
  go_ret
  exact ⟨rfl, rfl⟩
set_option maxRecDepth 20000 in
set_option maxHeartbeats 2000000 in
theorem errIs_other (a b : Addr) (w : World) (hne : a ≠ b) (ha : ∃ c t, w.heap[a.block]? = some (.cells c t (0, 0))) (hb : ∃ c t, w.heap[b.block]? = some (.cells c t (0, 0))) :
    Calls Tryz.prog 101 #[errV a, errV b] w fun e w' => e = .returned (.bool false) ∧ w' = w := by
  obtain ⟨ca, ta, ha⟩ := ha
  obtain ⟨cb, tb, hb⟩ := hb
  unfold errV
  obtain ⟨i, hi, hcmp⟩ := Option.map_eq_some_iff.1 Tryz.teComp
  obtain ⟨j, hj, hjs⟩ := Option.map_eq_some_iff.1 Tryz.teSize
  have h8 := @run_callFunc_extern Tryz.prog 114 _ Extern.ReflectliteType.typeOf Tryz.func114 (by kernel_rfl) (by kernel_rfl) (by kernel_rfl) (by kernel_rfl)
  have h32 := Tryz.teCall
  have tT := Tryz.teT
  have mR := Tryz.teM
  have nE := Tryz.teNoIs
  have uE := Tryz.teNoU
  have vE := Tryz.teNoV
  have heq := run_eql_iface_ptr_other (P := Tryz.prog) w Tryz.underlying127 Tryz.underlying213 hi hcmp hj (by rw [hjs]; decide) hne ha hb
  go_enter Tryz.func101, Tryz.ntmps101
  go_wp2
  refine wp_loop_rounds 1 ?_
  rw [rounds_succ]
  go_wp2
  go_ret
  exact ⟨rfl, rfl⟩
set_option maxRecDepth 20000 in
set_option maxHeartbeats 2000000 in
theorem errIs_nil (b : Addr) (w : World) :
    Calls Tryz.prog 101 #[.nilIface, errV b] w fun e w' => e = .returned (.bool false) ∧ w' = w := by
  unfold errV
  have hn := run_eql_iface_nil_left (P := Tryz.prog) w 213 (.pointer (some b)) Tryz.underlying127
  go_enter Tryz.func101, Tryz.ntmps101
  go_wp2
  go_ret
  exact ⟨rfl, rfl⟩
end Go.Proofs.YtngkiokibldfjaaGreatDoor
namespace Go.Proofs.YtngkiokibldfjaaGreatDoor
open Go.RowKit
/-! The program's reader: read. -/
def isF7 (v : Value) : Prop := ∃ (c0 c1 : Int) (g : Bool) (c3 c4 c5 c6 : Int), v = .agg #[.int .i64 c0, .int .i64 c1, .bool g, .int .i64 c3, .int .i64 c4, .int .i64 c5, .int .i64 c6]
def ReadP (s : ByteArray) (p : Int) (ea eb : Addr) (e : Ending) : Prop :=
  (¬ Marked s p ∧ e = .returned (.tuple #[frm0, errV ea])) ∨ (getRec s p = none ∧ ∃ v, isF7 v ∧ e = .returned (.tuple #[v, errV eb])) ∨
  (∃ f, getRec s p = some f ∧ e = .returned (.tuple #[frmV f, .nilIface]))
def TblE (ex : Sx) (base R : Nat) (s : ByteArray) (M : Nat → Prop) (w w' : World) : Prop := ∃ hv pv n m, Tbl ex base R s w' hv pv n m ∧ Step M w (Mine R hv pv) w'
theorem tblE_below {ex : Sx} {base R : Nat} {s : ByteArray} {w w' : World} {hv pv : Value} {n m : Nat} (T : Tbl ex base R s w hv pv n m) (hb : Below w.heap.size w w') : TblE ex base R s (Mine R hv pv) w w' := ⟨_, _, _, _, T.far hb, Step.of_below hb⟩
theorem tblE_grown {ex : Sx} {base R RB : Nat} {s : ByteArray} {M : Nat → Prop} {w X Y : World} {hv pv : Value} {n m : Nat} (T : Tbl ex base R s X hv pv n m) (S : Step M w (Mine R hv pv) X) (hg : X.grownBy Y (some RB)) (hn : ¬ Mine R hv pv RB) (hlo : w.heap.size ≤ RB) : TblE ex base R s M w Y :=
  ⟨hv, pv, n, m, ⟨T.blk.far hg T.blk.lt (fun q => hn (Or.inl (Option.some.inj q).symm)), T.lo, Nat.le_trans T.bs hg.size, World.ownsRow.kept T.hh hg (Or.inr fun q => hn (Or.inr (Or.inl q))), World.ownsRow.kept T.hp hg (Or.inr fun q => hn (Or.inr (Or.inr q))), T.sep, T.hn, T.hm⟩,
    ⟨hg.os.trans S.os, hg.tape.trans S.tape, hg.output.trans S.output, Nat.le_trans S.size hg.size, fun b hb hm => (hg.block b (Nat.lt_of_lt_of_le hb S.size) (fun q => by cases q; omega)).trans (S.block b hb hm), S.own⟩⟩
def ErrsLo (R : Nat) (ea eb : Addr) : Prop := 1 < R ∧ ea.block < R ∧ eb.block < R
theorem Errs.step {w w' : World} {ea eb : Addr} {R : Nat} {M M' : Nat → Prop} (h : Errs w ea eb) (S : Step M w M' w') (hl : ErrsLo R ea eb) (hm : ∀ b, M b → R ≤ b) : Errs w' ea eb := by
  obtain ⟨l1, l2, l3⟩ := hl
  obtain ⟨c1, t1, r1⟩ := h.rowA
  obtain ⟨c2, t2, r2⟩ := h.rowB
  have h2 := h.two
  have key : ∀ b, b < w.heap.size → b < R → w'.heap[b]? = w.heap[b]? := fun b hb hr => S.block b hb (fun q => by have := hm b q; omega)
  have cc : ∀ b, b < w.heap.size → b < R → w'.cell? ⟨b, 0, none⟩ = w.cell? ⟨b, 0, none⟩ := fun b hb hr => by simp only [World.cell?, key b hb hr]
  exact ⟨(cc _ (by omega) (by omega)).trans h.mark, (cc _ (by omega) (by omega)).trans h.bent, Nat.lt_of_lt_of_le h2 S.size, h.ne, ⟨c1, t1, (key _ (heap_lt r1) l2).trans r1⟩, ⟨c2, t2, (key _ (heap_lt r2) l3).trans r2⟩⟩
set_option maxRecDepth 20000 in
set_option maxHeartbeats 4000000 in
theorem read_all (ex : Sx) (base R : Nat) (s : ByteArray) (p : Int) (hs : s.size ≤ 400000) (ea eb : Addr) (hv pv : Value) (n m : Nat) (w : World) (hE : Errs w ea eb) (hlo : ErrsLo R ea eb) (T : Tbl ex base R s w hv pv n m) :
    Calls Tryz.prog 100 #[.pointer (some ⟨R, 0, none⟩), .int .i64 p] w fun e w' => ReadP s p ea eb e ∧ TblE ex base R s (Mine R hv pv) w w' := by
  have HT0 := hid T
  have HE0 := hid hE
  have hE0 : Errs (w.alloc (.cells #[.int .i64 0, .int .i64 0, .bool false, .int .i64 0, .int .i64 0, .int .i64 0, .int .i64 0] 110)) ea eb := hE.below ((Below.refl _ _).alloc (Nat.le_refl _) _)
  have r0 : w.cell? ⟨R, 0, none⟩ = some (.string s) := T.blk.cell 0 _ rfl
  have Rlt : R < w.heap.size := T.blk.lt
  have nJ : Hid (¬ Mine R hv pv w.heap.size) := fun q => by have := T.mine_lt q; omega
  clear T
  go_enter Tryz.func100, Tryz.ntmps100
  go_wp2_with fail
  refine (frameAt_all s p (by omega) _ ea eb hE0).mono ?_
  rintro e w1 ⟨hp, hb1⟩
  have hB1 : Blk w1 w.heap.size #[.int .i64 0, .int .i64 0, .bool false, .int .i64 0, .int .i64 0, .int .i64 0, .int .i64 0] 110 := (hb1.block _ (by simp)).trans (Blk.made w _ _)
  have hz : w.heap.size < w1.heap.size := hB1.lt
  have HB : Hid (Below w.heap.size w w1) := ((Below.refl _ _).alloc (Nat.le_refl _) _).trans (hb1.mono (by simp))
  have HE1 := hid (hE.below HB.out)
  clear hb1 hE0 hE
  have q0 := hB1.cell 0 _ rfl
  have f0 := hB1.free 0
  have q1 := hB1.cell 1 _ rfl
  have f1 := hB1.free 1
  have q2 := hB1.cell 2 _ rfl
  have f2 := hB1.free 2
  have q3 := hB1.cell 3 _ rfl
  have f3 := hB1.free 3
  have q4 := hB1.cell 4 _ rfl
  have f4 := hB1.free 4
  have q5 := hB1.cell 5 _ rfl
  have f5 := hB1.free 5
  have q6 := hB1.cell 6 _ rfl
  have f6 := hB1.free 6
  rcases hp with ⟨hm, rfl⟩ | ⟨hm, hn, rfl⟩ | ⟨f, hm, hn, rfl⟩
  · have HM := hid hm
    clear hm
    unfold frm0 errV
    have nn : ∀ wx (x : Value), (binOp .eql 127 (.iface 213 x) .nilIface).run Tryz.prog wx = .ok (.bool false) wx := fun wx x => run_eql_held_nil wx _ _ x (by kernel_rfl)
    go_wp2_with fail
    go_quiet (fail)
    go_wp2
    refine bodyPost_ret (v := .tuple #[frm0, errV ea]) (by simp [results, Tryz.results100, go_sem, frm0, errV, hz, q0, q1, q2, q3, q4, q5, q6]) rfl ⟨Or.inl ⟨HM.out, rfl⟩, tblE_below HT0.out ?_⟩
    repeat (first | with_reducible exact HB.out | with_reducible refine Below.drew ?_ | with_reducible refine below_drewN ?_ | with_reducible refine Below.setCell ?_ (by simp) _ | with_reducible refine Below.setCell ?_ (by simp; omega) _ | with_reducible refine Below.alloc ?_ (by first | omega | (simp; done) | (simp; omega)) _)
  · have HM : Hid (getRec s p = none) := by show _ = _; unfold getRec; rw [if_pos hm, hn]
    clear hm hn
    unfold frm0 errV
    have nn : ∀ wx (x : Value), (binOp .eql 127 (.iface 213 x) .nilIface).run Tryz.prog wx = .ok (.bool false) wx := fun wx x => run_eql_held_nil wx _ _ x (by kernel_rfl)
    go_wp2_with fail
    go_quiet (fail)
    go_wp2
    refine bodyPost_ret (v := .tuple #[frm0, errV eb]) (by simp [results, Tryz.results100, go_sem, frm0, errV, hz, q0, q1, q2, q3, q4, q5, q6]) rfl ⟨Or.inr (Or.inl ⟨HM.out, frm0, ⟨_, _, _, _, _, _, _, rfl⟩, rfl⟩), tblE_below HT0.out ?_⟩
    repeat (first | with_reducible exact HB.out | with_reducible refine Below.drew ?_ | with_reducible refine below_drewN ?_ | with_reducible refine Below.setCell ?_ (by simp) _ | with_reducible refine Below.setCell ?_ (by simp; omega) _ | with_reducible refine Below.alloc ?_ (by first | omega | (simp; done) | (simp; omega)) _)
  · have FI := frm_in s _ f hn
    have EG : Hid (getRec s p = if sumOf (s.extract f.at' (f.next - 4)) 5 = sum4 s (f.next - 4) then some f else none) := by show _ = _; unfold getRec; rw [if_pos hm, hn]
    have S1 := fun w => hid (iSummed f (by omega) (by omega) w)
    have OF := fun w T => hid (of_all ex base R s f.at' (f.next - 4 - f.at') (by omega) (by omega) (by omega) hv pv n m w T)
    rw [show f.at' + (f.next - 4 - f.at') = f.next - 4 by omega] at OF
    have T1 := fun w => hid (iSum f s (by omega) (by omega) (by omega) w)
    clear hm hn FI q0 q1 q2 q3 q4 q5 q6 f0 f1 f2 f3 f4 f5 f6
    obtain ⟨ka, ks, g, ba, bs, a, n9⟩ := f
    unfold frmV at *
    simp only at *
    obtain ⟨X, hX⟩ : ∃ X, X = s.extract a (n9 - 4) := ⟨_, rfl⟩
    obtain ⟨L, hL⟩ : ∃ L, L = n9 - 4 - a := ⟨_, rfl⟩
    obtain ⟨y, hy⟩ : ∃ y, y = sum4 s (n9 - 4) := ⟨_, rfl⟩
    rw [← hX] at OF EG
    rw [← hL] at S1 OF
    rw [← hy] at T1 EG
    obtain ⟨x, hx⟩ : ∃ x, x = sumOf X 5 := ⟨_, rfl⟩
    rw [← hx] at OF EG
    clear hX hL hy hx
    have nn : ∀ wx, (binOp .eql 127 .nilIface .nilIface).run Tryz.prog wx = .ok (.bool true) wx := fun wx => run_eql_nil_nil wx _ (by kernel_rfl)
    have hF := Blk.made w1 #[.int .i64 (ka : Nat), .int .i64 (ks : Nat), .bool g, .int .i64 (ba : Nat), .int .i64 (bs : Nat), .int .i64 (a : Nat), .int .i64 (n9 : Nat)] 110
    have hJ := hB1.past hz (.cells #[.int .i64 (ka : Nat), .int .i64 (ks : Nat), .bool g, .int .i64 (ba : Nat), .int .i64 (bs : Nat), .int .i64 (a : Nat), .int .i64 (n9 : Nat)] 110)
    have hB2 : Below w.heap.size w (w1.alloc (.cells #[.int .i64 (ka : Nat), .int .i64 (ks : Nat), .bool g, .int .i64 (ba : Nat), .int .i64 (bs : Nat), .int .i64 (a : Nat), .int .i64 (n9 : Nat)] 110)) := HB.out.alloc (by omega) _
    have HT := hid (HT0.out.far hB2)
    have hS : Hid (Step (Mine R hv pv) w (Mine R hv pv) (w1.alloc (.cells #[.int .i64 (ka : Nat), .int .i64 (ks : Nat), .bool g, .int .i64 (ba : Nat), .int .i64 (bs : Nat), .int .i64 (a : Nat), .int .i64 (n9 : Nat)] 110))) := Step.of_below hB2
    have r1 : (w1.alloc (.cells #[.int .i64 (ka : Nat), .int .i64 (ks : Nat), .bool g, .int .i64 (ba : Nat), .int .i64 (bs : Nat), .int .i64 (a : Nat), .int .i64 (n9 : Nat)] 110)).cell? ⟨R, 0, none⟩ = some (.string s) := HT.out.blk.cell 0 _ rfl
    have nF : Hid (¬ Mine R hv pv w1.heap.size) := fun q => by have := HT0.out.mine_lt q; omega
    have HZ := hid hz
    clear hB2 HB hB1
    by_cases hxy : x = y
    · have E : Hid (getRec s p = some ⟨ka, ks, g, ba, bs, a, n9⟩) := by show _ = _; rw [EG.out, if_pos hxy]
      have d : (x != y) = false := by simp [hxy]
      have HXY := hid hxy
      clear EG hxy
      go_wp2_with fail
      go_region_held3 (fun wx => ((wx.cell? ⟨w1.heap.size, 0, none⟩ = some (.int .i64 (ka : Nat)) ∧ wx.cell? ⟨w1.heap.size, 1, none⟩ = some (.int .i64 (ks : Nat))) ∧ wx.cell? ⟨w1.heap.size, 2, none⟩ = some (.bool g)) ∧ (wx.cell? ⟨w1.heap.size, 3, none⟩ = some (.int .i64 (ba : Nat)) ∧ wx.cell? ⟨w1.heap.size, 4, none⟩ = some (.int .i64 (bs : Nat))) ∧ (wx.cell? ⟨w1.heap.size, 5, none⟩ = some (.int .i64 (a : Nat)) ∧ wx.cell? ⟨w1.heap.size, 6, none⟩ = some (.int .i64 (n9 : Nat))) ∧ wx.cell? ⟨R, 0, none⟩ = some (.string s)) (first | exact ⟨⟨⟨hF.cell 0 _ rfl, hF.cell 1 _ rfl⟩, hF.cell 2 _ rfl⟩, ⟨hF.cell 3 _ rfl, hF.cell 4 _ rfl⟩, ⟨hF.cell 5 _ rfl, hF.cell 6 _ rfl⟩, HT.out.blk.cell 0 _ rfl⟩ | (go_keep; done))
        (((first
          | (go_at_call 112; refine (S1 _).out.mono ?_; rintro e v1 ⟨rfl, hb⟩; replace hJ := Blk.next hb hJ; replace hF := Blk.next hb hF; (first | replace HT := hid (HT.out.far hb) | replace HT := hid (HT.out.drew.far hb)); (first | replace hS := hid (hS.out.trans (Step.of_below hb)) | replace hS := hid (hS.out.drew.trans (Step.of_below hb))))
          | (go_at_call 111; refine (OF _ (by first | exact HT.out | exact HT.out.drew)).out.mono ?_; rintro e v2 ⟨rfl, hv2, pv2, n2, m2, T2, S2⟩; have nJ2 : Hid (¬ Mine R hv2 pv2 w.heap.size) := (fun q => (S2.own _ q).elim nJ.out (fun r => absurd hJ.lt (Nat.not_lt.2 r))); replace hJ := S2.blk hJ nJ.out; replace hF := S2.blk hF nF.out; (first | replace hS := hid (hS.out.trans S2) | replace hS := hid (hS.out.drew.trans S2)); replace HT := hid T2; clear T2 S2)
          | (go_at_call 113; refine (T1 _).out.mono ?_; rintro e v1 ⟨rfl, hb⟩; replace hJ := Blk.next hb hJ; replace hF := Blk.next hb hF; (first | replace HT := hid (HT.out.far hb) | replace HT := hid (HT.out.drew.far hb)); (first | replace hS := hid (hS.out.trans (Step.of_below hb)) | replace hS := hid (hS.out.drew.trans (Step.of_below hb)))))))
      have q0 := hJ.cell 0 _ rfl; have q1 := hJ.cell 1 _ rfl; have q2 := hJ.cell 2 _ rfl; have q3 := hJ.cell 3 _ rfl; have q4 := hJ.cell 4 _ rfl; have q5 := hJ.cell 5 _ rfl; have q6 := hJ.cell 6 _ rfl; have f0 := hJ.free 0; have f1 := hJ.free 1; have f2 := hJ.free 2; have f3 := hJ.free 3; have f4 := hJ.free 4; have f5 := hJ.free 5; have f6 := hJ.free 6
      have b0 := hF.cell 0 _ rfl
      have b1 := hF.cell 1 _ rfl
      have b2 := hF.cell 2 _ rfl
      have b3 := hF.cell 3 _ rfl
      have b4 := hF.cell 4 _ rfl
      have b5 := hF.cell 5 _ rfl
      have b6 := hF.cell 6 _ rfl
      clear hb
      go_wp2
      refine bodyPost_ret (v := .tuple #[.agg #[.int .i64 (ka : Nat), .int .i64 (ks : Nat), .bool g, .int .i64 (ba : Nat), .int .i64 (bs : Nat), .int .i64 (a : Nat), .int .i64 (n9 : Nat)], .nilIface]) (by simp [results, Tryz.results100, go_sem, q0, q1, q2, q3, q4, q5, q6]) rfl ⟨Or.inr (Or.inr ⟨_, E.out, rfl⟩), tblE_grown HT.out hS.out ?_ nJ2.out (Nat.le_refl _)⟩
      exact grown_trans (grown_trans (grown_trans (grown_trans (grown_trans (grown_trans grown_set grown_set) grown_set) grown_set) grown_set) grown_set) grown_set
    · have E : Hid (getRec s p = none) := by show _ = _; rw [EG.out, if_neg hxy]
      have d : (x != y) = true := by simp [hxy]
      have HXY := hid hxy
      clear EG hxy
      go_wp2_with fail
      go_region_held3 (fun wx => ((wx.cell? ⟨w1.heap.size, 0, none⟩ = some (.int .i64 (ka : Nat)) ∧ wx.cell? ⟨w1.heap.size, 1, none⟩ = some (.int .i64 (ks : Nat))) ∧ wx.cell? ⟨w1.heap.size, 2, none⟩ = some (.bool g)) ∧ (wx.cell? ⟨w1.heap.size, 3, none⟩ = some (.int .i64 (ba : Nat)) ∧ wx.cell? ⟨w1.heap.size, 4, none⟩ = some (.int .i64 (bs : Nat))) ∧ (wx.cell? ⟨w1.heap.size, 5, none⟩ = some (.int .i64 (a : Nat)) ∧ wx.cell? ⟨w1.heap.size, 6, none⟩ = some (.int .i64 (n9 : Nat))) ∧ wx.cell? ⟨R, 0, none⟩ = some (.string s)) (first | exact ⟨⟨⟨hF.cell 0 _ rfl, hF.cell 1 _ rfl⟩, hF.cell 2 _ rfl⟩, ⟨hF.cell 3 _ rfl, hF.cell 4 _ rfl⟩, ⟨hF.cell 5 _ rfl, hF.cell 6 _ rfl⟩, HT.out.blk.cell 0 _ rfl⟩ | (go_keep; done))
        (((first
          | (go_at_call 112; refine (S1 _).out.mono ?_; rintro e v1 ⟨rfl, hb⟩; replace hJ := Blk.next hb hJ; replace hF := Blk.next hb hF; (first | replace HT := hid (HT.out.far hb) | replace HT := hid (HT.out.drew.far hb)); (first | replace hS := hid (hS.out.trans (Step.of_below hb)) | replace hS := hid (hS.out.drew.trans (Step.of_below hb))))
          | (go_at_call 111; refine (OF _ (by first | exact HT.out | exact HT.out.drew)).out.mono ?_; rintro e v2 ⟨rfl, hv2, pv2, n2, m2, T2, S2⟩; have nJ2 : Hid (¬ Mine R hv2 pv2 w.heap.size) := (fun q => (S2.own _ q).elim nJ.out (fun r => absurd hJ.lt (Nat.not_lt.2 r))); replace hJ := S2.blk hJ nJ.out; replace hF := S2.blk hF nF.out; (first | replace hS := hid (hS.out.trans S2) | replace hS := hid (hS.out.drew.trans S2)); replace HT := hid T2; clear T2 S2)
          | (go_at_call 113; refine (T1 _).out.mono ?_; rintro e v1 ⟨rfl, hb⟩; replace hJ := Blk.next hb hJ; replace hF := Blk.next hb hF; (first | replace HT := hid (HT.out.far hb) | replace HT := hid (HT.out.drew.far hb)); (first | replace hS := hid (hS.out.trans (Step.of_below hb)) | replace hS := hid (hS.out.drew.trans (Step.of_below hb)))))))
      have q0 := hJ.cell 0 _ rfl; have q1 := hJ.cell 1 _ rfl; have q2 := hJ.cell 2 _ rfl; have q3 := hJ.cell 3 _ rfl; have q4 := hJ.cell 4 _ rfl; have q5 := hJ.cell 5 _ rfl; have q6 := hJ.cell 6 _ rfl; have f0 := hJ.free 0; have f1 := hJ.free 1; have f2 := hJ.free 2; have f3 := hJ.free 3; have f4 := hJ.free 4; have f5 := hJ.free 5; have f6 := hJ.free 6
      have b0 := hF.cell 0 _ rfl
      have b1 := hF.cell 1 _ rfl
      have b2 := hF.cell 2 _ rfl
      have b3 := hF.cell 3 _ rfl
      have b4 := hF.cell 4 _ rfl
      have b5 := hF.cell 5 _ rfl
      have b6 := hF.cell 6 _ rfl
      have e1 := (HE0.out.step hS.out hlo (fun b q => HT0.out.mine_lo q)).bent
      clear hb
      go_wp2
      refine bodyPost_ret (v := .tuple #[.agg #[.int .i64 (ka : Nat), .int .i64 (ks : Nat), .bool g, .int .i64 (ba : Nat), .int .i64 (bs : Nat), .int .i64 (a : Nat), .int .i64 (n9 : Nat)], errV eb]) (by simp [results, Tryz.results100, go_sem, errV, q0, q1, q2, q3, q4, q5, q6]) rfl ⟨Or.inr (Or.inl ⟨E.out, _, ⟨_, _, _, _, _, _, _, rfl⟩, rfl⟩), tblE_grown HT.out hS.out ?_ nJ2.out (Nat.le_refl _)⟩
      exact grown_trans (grown_trans (grown_trans (grown_trans (grown_trans (grown_trans grown_set grown_set) grown_set) grown_set) grown_set) grown_set) grown_set
end Go.Proofs.YtngkiokibldfjaaGreatDoor
namespace Go.Proofs.YtngkiokibldfjaaGreatDoor
open Go.RowKit
/-! The program's reader: nextMark, find. -/
theorem firstIdx_none (t : ByteArray) (c : UInt8) (h : firstIdx t c = -1) : ∀ i (hi : i < t.size), t[i] ≠ c := by
  intro i hi q
  unfold firstIdx at h
  split at h
  · omega
  · rename_i hn
    have := List.find?_eq_none.1 hn i (List.mem_range.2 hi)
    simp [hi, q] at this
theorem firstIdx_some (t : ByteArray) (c : UInt8) (h : firstIdx t c ≠ -1) : ∃ i : Nat, firstIdx t c = (i : Int) ∧ ∃ hi : i < t.size, t[i] = c ∧ ∀ j (hj : j < t.size), j < i → t[j] ≠ c := by
  unfold firstIdx at h ⊢
  split
  · rename_i i hs
    obtain ⟨h1, h2, h3⟩ := List.find?_range_eq_some.1 hs
    have hi : i < t.size := List.mem_range.1 h2
    refine ⟨i, rfl, hi, by simpa [hi] using h1, fun j hj hji q => ?_⟩
    have := h3 j hji
    simp [hj, q] at this
  · rename_i hn; rw [hn] at h; exact absurd rfl h
theorem firstIdx_form (t : ByteArray) (c : UInt8) : firstIdx t c = -1 ∨ ∃ i : Nat, firstIdx t c = (i : Int) := by
  by_cases h : firstIdx t c = -1
  · exact Or.inl h
  · obtain ⟨i, hi, _⟩ := firstIdx_some t c h; exact Or.inr ⟨i, hi⟩
set_option maxHeartbeats 1000000 in
theorem iIdx (t : ByteArray) (w : World) :
    Calls Tryz.prog 106 #[.string t, .int .u8 231] w fun e w' => e = .returned (.int .i64 (firstIdx t 231)) ∧ w' = w := by
  have h64 := @run_callFunc_extern Tryz.prog 129 _ Extern.BytealgIndexByte.indexByte Tryz.func129 (by kernel_rfl) (by kernel_rfl) (by kernel_rfl) (by kernel_rfl)
  have hr := fun w => run_indexByte_string (P := Tryz.prog) t 231 w
  go_enter Tryz.func106, Tryz.ntmps106
  go_wp2
  go_ret
  exact ⟨rfl, rfl⟩
theorem ex_get (s : ByteArray) (p e i : Nat) (he : e ≤ s.size) (hi : i < (s.extract p e).size) : p + i < s.size ∧ ∀ h, (s.extract p e)[i] = s[p + i]'h := by
  have hz := ex_size s p e he
  refine ⟨by omega, fun h => ?_⟩
  have h1 : (s.extract p e).data.toList[i]? = some (s.extract p e)[i] := data_get _ i hi
  rw [ex_data, List.getElem?_take_of_lt (by omega), List.getElem?_drop, data_get s (p + i) h] at h1
  exact (Option.some.inj h1).symm
def NextP (s : ByteArray) (p e q : Nat) : Prop := p ≤ q ∧ q ≤ e ∧ (∀ k, p ≤ k → k < q → byteAt s k ≠ 231) ∧ (q < e → byteAt s q = 231)
theorem next_of (s : ByteArray) (p e : Nat) (hpe : p ≤ e) (he : e ≤ s.size) : (firstIdx (s.extract p e) 231 = -1 ∧ NextP s p e e) ∨ ∃ i : Nat, firstIdx (s.extract p e) 231 = (i : Int) ∧ p + i < e ∧ NextP s p e (p + i) := by
  have hz := ex_size s p e he
  by_cases h : firstIdx (s.extract p e) 231 = -1
  · left
    refine ⟨h, hpe, Nat.le_refl _, fun k h1 h2 q => ?_, fun q => absurd q (Nat.lt_irrefl _)⟩
    obtain ⟨i, rfl⟩ : ∃ i, k = p + i := ⟨k - p, by omega⟩
    have hi : i < (s.extract p e).size := by omega
    have := firstIdx_none _ _ h i hi
    rw [(ex_get s p e i he hi).2 (by omega)] at this
    rw [byteAt_get s (p + i) (by omega)] at q
    exact this (UInt8.toNat_inj.1 q)
  · right
    obtain ⟨i, e1, hi, e2, e3⟩ := firstIdx_some _ _ h
    refine ⟨i, e1, by omega, by omega, by omega, fun k h1 h2 q => ?_, fun _ => ?_⟩
    · obtain ⟨j, rfl⟩ : ∃ j, k = p + j := ⟨k - p, by omega⟩
      have hj : j < (s.extract p e).size := by omega
      have := e3 j hj (by omega)
      rw [(ex_get s p e j he hj).2 (by omega)] at this
      rw [byteAt_get s (p + j) (by omega)] at q
      exact this (UInt8.toNat_inj.1 q)
    · rw [byteAt_get s (p + i) (by omega), ← (ex_get s p e i he hi).2 (by omega), e2]; rfl
set_option maxRecDepth 20000 in
set_option maxHeartbeats 1000000 in
theorem nextMark_all (R : Nat) (s : ByteArray) (p e : Nat) (hpe : p ≤ e) (he : e ≤ s.size) (hs : s.size ≤ 1048576) (w : World) (hr : w.cell? ⟨R, 0, none⟩ = some (.string s)) :
    Calls Tryz.prog 94 #[.pointer (some ⟨R, 0, none⟩), .int .i64 (p : Nat), .int .i64 (e : Nat)] w fun r w' => (∃ q : Nat, r = .returned (.int .i64 (q : Nat)) ∧ NextP s p e q) ∧ w' = w := by
  have hsl : ∀ wx, (Instr.slice 9 (.string s) (some (.int .i64 (p : Int))) (some (.int .i64 (e : Int))) none).run Tryz.prog wx = .ok (.string (s.extract p e)) wx := by
    intro wx
    rw [run_slice_string_if _ _ _ _ _ _ _ Tryz.underlying9, if_pos (by omega), if_pos (by omega)]
    rw [Int.toNat_natCast, Int.toNat_natCast]
  have IX := fun w => hid (iIdx (s.extract p e) w)
  have NX := hid (next_of s p e hpe he)
  obtain ⟨t, ht⟩ : ∃ t, t = s.extract p e := ⟨_, rfl⟩
  rw [← ht] at hsl IX NX
  clear ht
  rcases NX.out with ⟨h1, h2⟩ | ⟨i, h1, h2, h3⟩
  · rw [h1] at IX
    have H2 := hid h2
    clear h1 h2 NX
    go_enter Tryz.func94, Tryz.ntmps94
    go_wp2_with fail
    refine (IX _).out.mono ?_
    rintro e w1 ⟨rfl, rfl⟩
    go_wp2
    go_ret
    exact ⟨⟨_, rfl, H2.out⟩, rfl⟩
  · rw [h1] at IX
    have H3 := hid h3
    have d0 : decide ((i : Int) < 0) = false := by simp
    have wi : IntKind.i64.wrap ((p : Int) + (i : Int)) = (p : Int) + (i : Int) := by simp [IntKind.wrap, IntKind.bits, IntKind.signed]; omega
    have HI := hid h2
    clear h1 h3 NX h2
    go_enter Tryz.func94, Tryz.ntmps94
    go_wp2_with fail
    refine (IX _).out.mono ?_
    rintro e w1 ⟨rfl, rfl⟩
    go_wp2
    go_ret
    exact ⟨⟨p + i, by rw [show ((p + i : Nat) : Int) = (p : Int) + (i : Int) by omega]; rfl, H3.out⟩, rfl⟩
end Go.Proofs.YtngkiokibldfjaaGreatDoor
namespace Go.Proofs.YtngkiokibldfjaaGreatDoor
open Go.RowKit
/-! The program's reader: find. -/
def FindP (s : ByteArray) (p e : Nat) (r : Ending) : Prop :=
  (∃ f, getRec s (f.at' : Nat) = some f ∧ p ≤ f.at' ∧ f.at' < e ∧ (∀ k, p ≤ k → k < f.at' → getRec s (k : Nat) = none) ∧ r = .returned (.tuple #[frmV f, .bool true])) ∨
  ((∀ k, p ≤ k → k < e → getRec s (k : Nat) = none) ∧ r = .returned (.tuple #[frm0, .bool false]))
def z7 : Array Value := #[.int .i64 0, .int .i64 0, .bool false, .int .i64 0, .int .i64 0, .int .i64 0, .int .i64 0]
/-- where the search stands -/
def FSt (ex : Sx) (base R : Nat) (s : ByteArray) (p e : Nat) (w : World) (ea eb : Addr) (M : Nat → Prop) (q : Nat) (w' : World) : Prop :=
  p ≤ q ∧ q ≤ e ∧ (∀ k, p ≤ k → k < q → getRec s (k : Nat) = none) ∧ Errs w' ea eb ∧ Blk w' w.heap.size z7 110 ∧ ∃ hv pv n m, Tbl ex base R s w' hv pv n m ∧ Step M w (Mine R hv pv) w' ∧ ¬ Mine R hv pv w.heap.size
theorem getRec_none (s : ByteArray) (p : Int) (h : ¬ Marked s p) : getRec s p = none := by unfold getRec; rw [if_neg h]
theorem getRec_in' (s : ByteArray) (p : Nat) (f : Fr) (h : getRec s (p : Nat) = some f) : f.at' = p := by
  unfold getRec at h
  split at h
  · split at h
    · cases h
    · rename_i g hg
      have := (frm_in s _ g hg).1
      rw [Int.toNat_natCast] at this
      split at h
      · have e := Option.some.inj h
        subst e
        exact this
      · cases h
  · cases h
def intQ : Value → Int | .int _ q => q | _ => 0
theorem step_ne {R : Nat} {w w' : World} {hv pv : Value} {b : Nat} {M' : Nat → Prop} (S : Step (Mine R hv pv) w M' w') (hb : b < w.heap.size) (hn : ¬ Mine R hv pv b) : ¬ M' b := fun q => by
  rcases S.own b q with r | r
  · exact hn r
  · omega
def FindJ (ex : Sx) (base R : Nat) (s : ByteArray) (p e : Nat) (w : World) (ea eb : Addr) (M : Nat → Prop) (a' : Act) (w' : World) : Prop := ∃ (q : Nat) (u8 u9 u10 u11 u12 u13 u14 u15 u16 u17 u18 u19 u20 u21 u22 u23 u24 u25 u26 u27 u28 u29 u30 u31 u32 u33 : Value), a' = { tmps := #[.pointer (some ⟨R, 0, none⟩), .int .i64 (q : Nat), .int .i64 (e : Nat), undef, undef, undef, .pointer (some ⟨w.heap.size, 0, none⟩), .bool false, u8, u9, u10, u11, u12, u13, u14, u15, u16, u17, u18, u19, u20, u21, u22, u23, u24, u25, u26, u27, u28, u29, u30, u31, u32, u33, undef], defers := [] } ∧ FSt ex base R s p e w ea eb M q w'
def FindMu (e : Nat) (a' : Act) : Nat := e - (intQ (a'.tmps.getD 1 undef)).toNat
set_option maxRecDepth 20000 in
set_option maxHeartbeats 4000000 in
theorem find_all (ex : Sx) (base R : Nat) (s : ByteArray) (p e : Nat) (hpe : p ≤ e) (he : e ≤ s.size) (hs : s.size ≤ 400000) (ea eb : Addr) (hlo : ErrsLo R ea eb) (hv pv : Value) (n m : Nat) (w : World) (hE : Errs w ea eb) (T : Tbl ex base R s w hv pv n m) :
    Calls Tryz.prog 87 #[.pointer (some ⟨R, 0, none⟩), .int .i64 (p : Nat), .int .i64 (e : Nat)] w fun r w' => FindP s p e r ∧ TblE ex base R s (Mine R hv pv) w w' := by
  have J0 : Hid (FSt ex base R s p e w ea eb (Mine R hv pv) p (w.alloc (.cells #[.int .i64 0, .int .i64 0, .bool false, .int .i64 0, .int .i64 0, .int .i64 0, .int .i64 0] 110))) :=
    ⟨Nat.le_refl _, hpe, fun k h1 h2 => by omega, hE.below ((Below.refl _ _).alloc (Nat.le_refl _) _), Blk.made w _ _, hv, pv, n, m, T.alloc _, Step.of_below ((Below.refl _ _).alloc (Nat.le_refl _) _), fun q => by have := T.mine_lt q; omega⟩
  clear hE T
  go_enter Tryz.func87, Tryz.ntmps87
  go_wp2
  refine wp_scope_jumps 0 (FindJ ex base R s p e w ea eb (Mine R hv pv)) (fun a' _ => FindMu e a') rfl ?first ?pass
  case pass =>
    rintro a' w' ⟨q, u8, u9, u10, u11, u12, u13, u14, u15, u16, u17, u18, u19, u20, u21, u22, u23, u24, u25, u26, u27, u28, u29, u30, u31, u32, u33, rfl, h1, h2, h3, hE', hB', hv', pv', n', m', hT, hS, hN⟩
    have HT := hid hT
    have HS := hid hS
    have HN := hid hN
    have H3 := hid h3
    have HE' := hid hE'
    unfold z7 at hB'
    clear hT hS hN h3 hE'
    have zb : w.heap.size < w'.heap.size := hB'.lt
    by_cases hqe : q < e
    case neg =>
      have d0 : decide ((e : Int) ≤ (q : Int)) = true := by simp; omega
      have q0 := hB'.cell 0 _ rfl
      have f0 := hB'.free 0
      have q1 := hB'.cell 1 _ rfl
      have f1 := hB'.free 1
      have q2 := hB'.cell 2 _ rfl
      have f2 := hB'.free 2
      have q3 := hB'.cell 3 _ rfl
      have f3 := hB'.free 3
      have q4 := hB'.cell 4 _ rfl
      have f4 := hB'.free 4
      have q5 := hB'.cell 5 _ rfl
      have f5 := hB'.free 5
      have q6 := hB'.cell 6 _ rfl
      have f6 := hB'.free 6
      have K3 : Hid (∀ k, p ≤ k → k < e → getRec s (k : Nat) = none) := fun k a b => H3.out k a (by omega)
      have d0' : decide (e ≤ q) = true := by simp; omega
      go_wp2
      simp only [Exit.jump]
      refine bodyPost_ret (v := .tuple #[frm0, .bool false]) (by simp [results, Tryz.results87, go_sem, frm0, q0, q1, q2, q3, q4, q5, q6]) rfl ⟨Or.inr ⟨K3.out, rfl⟩, tblE_grown HT.out HS.out ?_ HN.out (Nat.le_refl _)⟩
      exact grown_trans (grown_trans (grown_trans (grown_trans (grown_trans (grown_trans grown_set grown_set) grown_set) grown_set) grown_set) grown_set) grown_set
    have d0 : decide ((e : Int) ≤ (q : Int)) = false := by simp; omega
    have d0' : decide (e ≤ q) = false := by simp; omega
    have RD := fun w hE T => hid (read_all ex base R s (q : Nat) hs ea eb hv' pv' n' m' w hE hlo T)
    go_wp2_with fail
    refine (RD _ HE'.out HT.out).out.mono ?_
    rintro r w2 ⟨hp, hv2, pv2, n2', m2, T2, S2⟩
    have HT2 := hid T2
    have HS2 : Hid (Step (Mine R hv pv) w (Mine R hv2 pv2) w2) := HS.out.trans S2
    have HN2 : Hid (¬ Mine R hv2 pv2 w.heap.size) := step_ne S2 zb HN.out
    have hB2 := S2.blk hB' HN.out
    have HE2 := hid (HE'.out.step S2 hlo (fun b q => HT.out.mine_lo q))
    have zb2 : w.heap.size < w2.heap.size := hB2.lt
    have r0 : w2.cell? ⟨R, 0, none⟩ = some (.string s) := T2.blk.cell 0 _ rfl
    have Rlt : R < w2.heap.size := T2.blk.lt
    have g0 := HE2.out.mark
    have g1 := HE2.out.bent
    have two := HE2.out.two
    have l0 : 0 < w2.heap.size := by omega
    have l1 : 1 < w2.heap.size := by omega
    clear T2 S2 RD HT HS HN hB' HE'
    rcases hp with ⟨hm, rfl⟩ | ⟨hn, v, ⟨c0, c1, gg, c3, c4, c5, c6, rfl⟩, rfl⟩ | ⟨f, hn, rfl⟩
    · have hb231 : byteAt s q ≠ 231 := fun r => hm ⟨by omega, by omega, by simpa using r⟩
      have NM := fun w h => hid (nextMark_all R s q e (by omega) he (by omega) w h)
      have HB231 := hid hb231
      clear hm hb231
      unfold frm0 errV
      go_wp2_with fail
      refine (errIs_same ea _).mono ?_
      rintro r w3 ⟨rfl, rfl⟩
      go_wp2_with fail
      refine (NM _ ((World.cell?_alloc_past (w := w2) _ R 0 Rlt).trans r0)).out.mono ?_
      rintro r w3 ⟨⟨q2, rfl, n1, n2, n3, n4⟩, rfl⟩
      have q2q : q < q2 := by
        rcases Nat.lt_or_ge q q2 with r | r
        · exact r
        · exact absurd (by rw [show q = q2 by omega]; exact n4 (by omega)) HB231.out
      have Q2 := hid q2q
      have N3 := hid n3
      clear n3 n4 q2q
      go_wp2_with fail
      go_step3
      refine ⟨rfl, ⟨q2, _, _, _, _, _, _, _, _, _, _, _, _, _, _, _, _, _, _, _, _, _, _, _, _, _, _, rfl, by omega, n2, fun k a b => (by by_cases c : k < q; (exact H3.out k a c); exact getRec_none s _ (fun r => N3.out k (by omega) b (by simpa using r.2.2))), HE2.out.below ((Below.refl _ _).alloc (Nat.le_refl _) _), hB2.past zb2 _, hv2, pv2, n2', m2, HT2.out.alloc _, HS2.out.trans (Step.of_below ((Below.refl _ _).alloc (Nat.le_refl _) _)), HN2.out⟩, ?_⟩
      show FindMu e _ < FindMu e _; unfold FindMu; simp [intQ]; have := Q2.out; omega
    · have HG := hid hn
      clear hn
      have wq : IntKind.i64.wrap ((q : Int) + 1) = (q : Int) + 1 := by simp [IntKind.wrap, IntKind.bits, IntKind.signed]; omega
      unfold errV
      go_wp2_with fail
      refine (errIs_other eb ea _ HE2.out.ne.symm (HE2.out.below ((Below.refl _ _).alloc (Nat.le_refl _) _)).rowB (HE2.out.below ((Below.refl _ _).alloc (Nat.le_refl _) _)).rowA).mono ?_
      rintro r w3 ⟨rfl, rfl⟩
      go_wp2_with fail
      refine (errIs_same eb _).mono ?_
      rintro r w3 ⟨rfl, rfl⟩
      go_wp2_with fail
      go_step3
      have cast1 : (q : Int) + 1 = ((q + 1 : Nat) : Int) := by omega
      rw [cast1]
      refine ⟨rfl, ⟨q + 1, _, _, _, _, _, _, _, _, _, _, _, _, _, _, _, _, _, _, _, _, _, _, _, _, _, _, rfl, by omega, by omega, fun k a b => (by by_cases c : k < q; (exact H3.out k a c); (have : k = q := by omega); rw [this]; exact HG.out), HE2.out.below ((Below.refl _ _).alloc (Nat.le_refl _) _), hB2.past zb2 _, hv2, pv2, n2', m2, HT2.out.alloc _, HS2.out.trans (Step.of_below ((Below.refl _ _).alloc (Nat.le_refl _) _)), HN2.out⟩, ?_⟩
      show FindMu e _ < FindMu e _; unfold FindMu; simp [intQ]; omega
    · have HG := hid hn
      have fa := (getRec_in' s q f hn)
      clear hn
      obtain ⟨ka, ks, g, ba, bs, a, n9⟩ := f
      unfold frmV
      simp only at fa ⊢
      subst fa
      go_wp2_with fail
      refine (errIs_nil ea _).mono ?_
      rintro r w3 ⟨rfl, rfl⟩
      go_wp2_with fail
      refine (errIs_nil eb _).mono ?_
      rintro r w3 ⟨rfl, rfl⟩
      have q0 := hB2.cell 0 _ rfl
      have f0 := hB2.free 0
      have q1 := hB2.cell 1 _ rfl
      have f1 := hB2.free 1
      have q2 := hB2.cell 2 _ rfl
      have f2 := hB2.free 2
      have q3 := hB2.cell 3 _ rfl
      have f3 := hB2.free 3
      have q4 := hB2.cell 4 _ rfl
      have f4 := hB2.free 4
      have q5 := hB2.cell 5 _ rfl
      have f5 := hB2.free 5
      have q6 := hB2.cell 6 _ rfl
      have f6 := hB2.free 6
      go_wp2
      simp only [Exit.jump]
      refine bodyPost_ret (v := .tuple #[.agg #[.int .i64 (ka : Nat), .int .i64 (ks : Nat), .bool g, .int .i64 (ba : Nat), .int .i64 (bs : Nat), .int .i64 (a : Nat), .int .i64 (n9 : Nat)], .bool true]) (by simp [results, Tryz.results87, go_sem, zb2, q0, q1, q2, q3, q4, q5, q6]) rfl ⟨Or.inl ⟨⟨ka, ks, g, ba, bs, a, n9⟩, HG.out, h1, hqe, H3.out, rfl⟩, tblE_grown HT2.out HS2.out ?_ HN2.out (Nat.le_refl _)⟩
      exact grown_alloc (grown_trans (grown_trans (grown_trans (grown_trans (grown_trans (grown_trans grown_set grown_set) grown_set) grown_set) grown_set) grown_set) grown_set) _
  case first =>
    obtain ⟨h1, h2, h3, hE', hB', hv', pv', n', m', hT, hS, hN⟩ := J0.out
    obtain ⟨w', hw'⟩ : ∃ w', w' = w.alloc (.cells #[.int .i64 0, .int .i64 0, .bool false, .int .i64 0, .int .i64 0, .int .i64 0, .int .i64 0] 110) := ⟨_, rfl⟩
    rw [← hw'] at hE' hB' hT hS ⊢
    clear hw' J0
    go_wp2_with fail
    go_step3
    have HT := hid hT
    have HS := hid hS
    have HN := hid hN
    have H3 := hid h3
    have HE' := hid hE'
    unfold z7 at hB'
    clear hT hS hN h3 hE'
    have zb : w.heap.size < w'.heap.size := hB'.lt
    by_cases hqe : p < e
    case neg =>
      have d0 : decide ((e : Int) ≤ (p : Int)) = true := by simp; omega
      have q0 := hB'.cell 0 _ rfl
      have f0 := hB'.free 0
      have q1 := hB'.cell 1 _ rfl
      have f1 := hB'.free 1
      have q2 := hB'.cell 2 _ rfl
      have f2 := hB'.free 2
      have q3 := hB'.cell 3 _ rfl
      have f3 := hB'.free 3
      have q4 := hB'.cell 4 _ rfl
      have f4 := hB'.free 4
      have q5 := hB'.cell 5 _ rfl
      have f5 := hB'.free 5
      have q6 := hB'.cell 6 _ rfl
      have f6 := hB'.free 6
      have K3 : Hid (∀ k, p ≤ k → k < e → getRec s (k : Nat) = none) := fun k a b => H3.out k a (by omega)
      have d0' : decide (e ≤ p) = true := by simp; omega
      go_wp2
      simp only [Exit.jump]
      refine bodyPost_ret (v := .tuple #[frm0, .bool false]) (by simp [results, Tryz.results87, go_sem, frm0, q0, q1, q2, q3, q4, q5, q6]) rfl ⟨Or.inr ⟨K3.out, rfl⟩, tblE_grown HT.out HS.out ?_ HN.out (Nat.le_refl _)⟩
      exact grown_trans (grown_trans (grown_trans (grown_trans (grown_trans (grown_trans grown_set grown_set) grown_set) grown_set) grown_set) grown_set) grown_set
    have d0 : decide ((e : Int) ≤ (p : Int)) = false := by simp; omega
    have d0' : decide (e ≤ p) = false := by simp; omega
    have RD := fun w hE T => hid (read_all ex base R s (p : Nat) hs ea eb hv' pv' n' m' w hE hlo T)
    go_wp2_with fail
    refine (RD _ HE'.out HT.out).out.mono ?_
    rintro r w2 ⟨hp, hv2, pv2, n2', m2, T2, S2⟩
    have HT2 := hid T2
    have HS2 : Hid (Step (Mine R hv pv) w (Mine R hv2 pv2) w2) := HS.out.trans S2
    have HN2 : Hid (¬ Mine R hv2 pv2 w.heap.size) := step_ne S2 zb HN.out
    have hB2 := S2.blk hB' HN.out
    have HE2 := hid (HE'.out.step S2 hlo (fun b p => HT.out.mine_lo p))
    have zb2 : w.heap.size < w2.heap.size := hB2.lt
    have r0 : w2.cell? ⟨R, 0, none⟩ = some (.string s) := T2.blk.cell 0 _ rfl
    have Rlt : R < w2.heap.size := T2.blk.lt
    have g0 := HE2.out.mark
    have g1 := HE2.out.bent
    have two := HE2.out.two
    have l0 : 0 < w2.heap.size := by omega
    have l1 : 1 < w2.heap.size := by omega
    clear T2 S2 RD HT HS HN hB' HE'
    rcases hp with ⟨hm, rfl⟩ | ⟨hn, v, ⟨c0, c1, gg, c3, c4, c5, c6, rfl⟩, rfl⟩ | ⟨f, hn, rfl⟩
    · have hb231 : byteAt s p ≠ 231 := fun r => hm ⟨by omega, by omega, by simpa using r⟩
      have NM := fun w h => hid (nextMark_all R s p e (by omega) he (by omega) w h)
      have HB231 := hid hb231
      clear hm hb231
      unfold frm0 errV
      go_wp2_with fail
      refine (errIs_same ea _).mono ?_
      rintro r w3 ⟨rfl, rfl⟩
      go_wp2_with fail
      refine (NM _ ((World.cell?_alloc_past (w := w2) _ R 0 Rlt).trans r0)).out.mono ?_
      rintro r w3 ⟨⟨q2, rfl, n1, n2, n3, n4⟩, rfl⟩
      have q2q : p < q2 := by
        rcases Nat.lt_or_ge p q2 with r | r
        · exact r
        · exact absurd (by rw [show p = q2 by omega]; exact n4 (by omega)) HB231.out
      have Q2 := hid q2q
      have N3 := hid n3
      clear n3 n4 q2q
      go_wp2_with fail
      go_step3
      refine ⟨rfl, ⟨q2, _, _, _, _, _, _, _, _, _, _, _, _, _, _, _, _, _, _, _, _, _, _, _, _, _, _, rfl, by omega, n2, fun k a b => (by by_cases c : k < p; (exact H3.out k a c); exact getRec_none s _ (fun r => N3.out k (by omega) b (by simpa using r.2.2))), HE2.out.below ((Below.refl _ _).alloc (Nat.le_refl _) _), hB2.past zb2 _, hv2, pv2, n2', m2, HT2.out.alloc _, HS2.out.trans (Step.of_below ((Below.refl _ _).alloc (Nat.le_refl _) _)), HN2.out⟩⟩
    · have HG := hid hn
      clear hn
      have wq : IntKind.i64.wrap ((p : Int) + 1) = (p : Int) + 1 := by simp [IntKind.wrap, IntKind.bits, IntKind.signed]; omega
      unfold errV
      go_wp2_with fail
      refine (errIs_other eb ea _ HE2.out.ne.symm (HE2.out.below ((Below.refl _ _).alloc (Nat.le_refl _) _)).rowB (HE2.out.below ((Below.refl _ _).alloc (Nat.le_refl _) _)).rowA).mono ?_
      rintro r w3 ⟨rfl, rfl⟩
      go_wp2_with fail
      refine (errIs_same eb _).mono ?_
      rintro r w3 ⟨rfl, rfl⟩
      go_wp2_with fail
      go_step3
      have cast1 : (p : Int) + 1 = ((p + 1 : Nat) : Int) := by omega
      rw [cast1]
      refine ⟨rfl, ⟨p + 1, _, _, _, _, _, _, _, _, _, _, _, _, _, _, _, _, _, _, _, _, _, _, _, _, _, _, rfl, by omega, by omega, fun k a b => (by by_cases c : k < p; (exact H3.out k a c); (have : k = p := by omega); rw [this]; exact HG.out), HE2.out.below ((Below.refl _ _).alloc (Nat.le_refl _) _), hB2.past zb2 _, hv2, pv2, n2', m2, HT2.out.alloc _, HS2.out.trans (Step.of_below ((Below.refl _ _).alloc (Nat.le_refl _) _)), HN2.out⟩⟩
    · have HG := hid hn
      have fa := (getRec_in' s p f hn)
      clear hn
      obtain ⟨ka, ks, g, ba, bs, a, n9⟩ := f
      unfold frmV
      simp only at fa ⊢
      subst fa
      go_wp2_with fail
      refine (errIs_nil ea _).mono ?_
      rintro r w3 ⟨rfl, rfl⟩
      go_wp2_with fail
      refine (errIs_nil eb _).mono ?_
      rintro r w3 ⟨rfl, rfl⟩
      have q0 := hB2.cell 0 _ rfl
      have f0 := hB2.free 0
      have q1 := hB2.cell 1 _ rfl
      have f1 := hB2.free 1
      have q2 := hB2.cell 2 _ rfl
      have f2 := hB2.free 2
      have q3 := hB2.cell 3 _ rfl
      have f3 := hB2.free 3
      have q4 := hB2.cell 4 _ rfl
      have f4 := hB2.free 4
      have q5 := hB2.cell 5 _ rfl
      have f5 := hB2.free 5
      have q6 := hB2.cell 6 _ rfl
      have f6 := hB2.free 6
      go_wp2
      simp only [Exit.jump]
      refine bodyPost_ret (v := .tuple #[.agg #[.int .i64 (ka : Nat), .int .i64 (ks : Nat), .bool g, .int .i64 (ba : Nat), .int .i64 (bs : Nat), .int .i64 (a : Nat), .int .i64 (n9 : Nat)], .bool true]) (by simp [results, Tryz.results87, go_sem, zb2, q0, q1, q2, q3, q4, q5, q6]) rfl ⟨Or.inl ⟨⟨ka, ks, g, ba, bs, a, n9⟩, HG.out, h1, hqe, H3.out, rfl⟩, tblE_grown HT2.out HS2.out ?_ HN2.out (Nat.le_refl _)⟩
      exact grown_alloc (grown_trans (grown_trans (grown_trans (grown_trans (grown_trans (grown_trans grown_set grown_set) grown_set) grown_set) grown_set) grown_set) grown_set) _
end Go.Proofs.YtngkiokibldfjaaGreatDoor
