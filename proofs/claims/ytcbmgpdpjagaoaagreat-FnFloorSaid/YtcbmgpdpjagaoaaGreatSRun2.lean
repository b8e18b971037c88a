import Derived.Test.YtcbmgpdpjagaoaaGreatSRun
import Derived.Deep.RegionHeld3
namespace Go.Proofs.YtcbmgpdpjagaoaaGreat
open Go.RowKit
def oSRun20 : Oper := { dst := some 23, op := Op.fieldAddr 46 (Operand.tmp 5) 0, type := 0, pos := "l08_runs.go:16", after := #[], guard := none }
def oSRun21 : Oper := { dst := some 24, op := Op.load 9 (Operand.tmp 23), type := 9, pos := "l08_runs.go:16", after := #[{ on := 0, ground := Ground.data }], guard := none }
def oSRun22 : Oper := { dst := some 25, op := Op.call { callee := Callee.builtin Builtin.len, args := #[Operand.tmp 24], argTypes := #[9] }, type := 3, pos := "l08_runs.go:16", after := #[{ on := 1, ground := Ground.data }], guard := none }
def oSRun23 : Oper := { dst := some 26, op := Op.binOp BinOp.lss 3 (Operand.tmp 25) (Operand.const (Value.int IntKind.i64 1)) 3, type := 4, pos := "l08_runs.go:16", after := #[{ on := 2, ground := Ground.data }], guard := none }
def oSRun24 : Oper := { dst := some 27, op := Op.move (Operand.tmp 26), type := 4, pos := "l08_runs.go:16", after := #[{ on := 3, ground := Ground.data }], guard := none }
def oSRun25 : Oper := { dst := some 28, op := Op.fieldAddr 46 (Operand.tmp 5) 0, type := 0, pos := "l08_runs.go:16", after := #[{ on := 4, ground := Ground.guard }], guard := some (4, false) }
def oSRun26 : Oper := { dst := some 29, op := Op.load 9 (Operand.tmp 28), type := 9, pos := "l08_runs.go:16", after := #[{ on := 5, ground := Ground.data }, { on := 4, ground := Ground.guard }], guard := some (4, false) }
def oSRun27 : Oper := { dst := some 30, op := Op.call { callee := Callee.builtin Builtin.len, args := #[Operand.tmp 29], argTypes := #[9] }, type := 3, pos := "l08_runs.go:16", after := #[{ on := 6, ground := Ground.data }, { on := 4, ground := Ground.guard }], guard := some (4, false) }
def oSRun28 : Oper := { dst := some 31, op := Op.binOp BinOp.gtr 3 (Operand.tmp 30) (Operand.const (Value.int IntKind.i64 200)) 3, type := 4, pos := "l08_runs.go:16", after := #[{ on := 7, ground := Ground.data }, { on := 4, ground := Ground.guard }], guard := some (4, false) }
def oSRun29 : Oper := { dst := some 32, op := Op.pick (Operand.tmp 27) (Operand.const (Value.bool true)) (Operand.tmp 31), type := 4, pos := "l08_runs.go:16", after := #[{ on := 4, ground := Ground.data }, { on := 8, ground := Ground.data }], guard := none }
def oSRun210 : Oper := { dst := some 33, op := Op.move (Operand.tmp 32), type := 4, pos := "l08_runs.go:16", after := #[{ on := 9, ground := Ground.data }, { on := 4, ground := Ground.chain }], guard := none }
def oSRun211 : Oper := { dst := some 34, op := Op.fieldAddr 46 (Operand.tmp 5) 1, type := 0, pos := "l08_runs.go:16", after := #[{ on := 10, ground := Ground.guard }], guard := some (10, false) }
def oSRun212 : Oper := { dst := some 35, op := Op.load 2 (Operand.tmp 34), type := 2, pos := "l08_runs.go:16", after := #[{ on := 11, ground := Ground.data }, { on := 10, ground := Ground.guard }], guard := some (10, false) }
def oSRun213 : Oper := { dst := some 36, op := Op.binOp BinOp.lss 2 (Operand.tmp 35) (Operand.const (Value.int IntKind.i64 1)) 2, type := 4, pos := "l08_runs.go:16", after := #[{ on := 12, ground := Ground.data }, { on := 10, ground := Ground.guard }], guard := some (10, false) }
def oSRun214 : Oper := { dst := some 37, op := Op.pick (Operand.tmp 33) (Operand.const (Value.bool true)) (Operand.tmp 36), type := 4, pos := "l08_runs.go:16", after := #[{ on := 10, ground := Ground.data }, { on := 13, ground := Ground.data }], guard := none }
def oSRun215 : Oper := { dst := some 38, op := Op.move (Operand.tmp 37), type := 4, pos := "l08_runs.go:16", after := #[{ on := 14, ground := Ground.data }, { on := 10, ground := Ground.chain }], guard := none }
def oSRun216 : Oper := { dst := some 39, op := Op.fieldAddr 46 (Operand.tmp 5) 2, type := 0, pos := "l08_runs.go:16", after := #[{ on := 15, ground := Ground.guard }], guard := some (15, false) }
def oSRun217 : Oper := { dst := some 40, op := Op.load 4 (Operand.tmp 39), type := 4, pos := "l08_runs.go:16", after := #[{ on := 16, ground := Ground.data }, { on := 15, ground := Ground.guard }], guard := some (15, false) }
def oSRun218 : Oper := { dst := some 41, op := Op.move (Operand.tmp 40), type := 4, pos := "l08_runs.go:16", after := #[{ on := 17, ground := Ground.data }, { on := 15, ground := Ground.chain }, { on := 15, ground := Ground.guard }], guard := some (15, false) }
def oSRun219 : Oper := { dst := some 42, op := Op.fieldAddr 46 (Operand.tmp 5) 3, type := 0, pos := "l08_runs.go:16", after := #[{ on := 18, ground := Ground.guard }], guard := some (18, true) }
def oSRun220 : Oper := { dst := some 43, op := Op.load 9 (Operand.tmp 42), type := 9, pos := "l08_runs.go:16", after := #[{ on := 19, ground := Ground.data }, { on := 18, ground := Ground.guard }], guard := some (18, true) }
def oSRun221 : Oper := { dst := some 44, op := Op.binOp BinOp.neq 9 (Operand.tmp 43) (Operand.const (Value.string { data := #[] })) 9, type := 4, pos := "l08_runs.go:16", after := #[{ on := 20, ground := Ground.data }, { on := 18, ground := Ground.guard }], guard := some (18, true) }
def oSRun222 : Oper := { dst := some 45, op := Op.pick (Operand.tmp 41) (Operand.tmp 44) (Operand.const (Value.bool false)), type := 4, pos := "l08_runs.go:16", after := #[{ on := 18, ground := Ground.data }, { on := 21, ground := Ground.data }, { on := 15, ground := Ground.guard }], guard := some (15, false) }
def oSRun223 : Oper := { dst := some 46, op := Op.pick (Operand.tmp 38) (Operand.const (Value.bool true)) (Operand.tmp 45), type := 4, pos := "l08_runs.go:16", after := #[{ on := 15, ground := Ground.data }, { on := 22, ground := Ground.data }], guard := none }
def oSRun224 : Oper := { dst := some 47, op := Op.move (Operand.tmp 46), type := 4, pos := "l08_runs.go:16", after := #[{ on := 23, ground := Ground.data }, { on := 18, ground := Ground.chain }], guard := none }
def oSRun225 : Oper := { dst := some 48, op := Op.fieldAddr 46 (Operand.tmp 5) 3, type := 0, pos := "l08_runs.go:16", after := #[{ on := 24, ground := Ground.guard }], guard := some (24, false) }
def oSRun226 : Oper := { dst := some 49, op := Op.load 9 (Operand.tmp 48), type := 9, pos := "l08_runs.go:16", after := #[{ on := 25, ground := Ground.data }, { on := 24, ground := Ground.guard }], guard := some (24, false) }
def oSRun227 : Oper := { dst := some 50, op := Op.call { callee := Callee.builtin Builtin.len, args := #[Operand.tmp 49], argTypes := #[9] }, type := 3, pos := "l08_runs.go:16", after := #[{ on := 26, ground := Ground.data }, { on := 24, ground := Ground.guard }], guard := some (24, false) }
def oSRun228 : Oper := { dst := some 51, op := Op.binOp BinOp.gtr 3 (Operand.tmp 50) (Operand.const (Value.int IntKind.i64 100000)) 3, type := 4, pos := "l08_runs.go:16", after := #[{ on := 27, ground := Ground.data }, { on := 24, ground := Ground.guard }], guard := some (24, false) }
def oSRun229 : Oper := { dst := some 52, op := Op.pick (Operand.tmp 47) (Operand.const (Value.bool true)) (Operand.tmp 51), type := 4, pos := "l08_runs.go:16", after := #[{ on := 24, ground := Ground.data }, { on := 28, ground := Ground.data }], guard := none }
def oSRun230 : Oper := { dst := some 53, op := Op.move (Operand.tmp 52), type := 4, pos := "l08_runs.go:16", after := #[{ on := 29, ground := Ground.data }, { on := 24, ground := Ground.chain }], guard := none }
def oSRun231 : Oper := { dst := some 54, op := Op.move (Operand.tmp 4), type := 3, pos := "l08_runs.go:16", after := #[{ on := 30, ground := Ground.guard }], guard := some (30, false) }
def oSRun232 : Oper := { dst := some 55, op := Op.binOp BinOp.gtr 3 (Operand.tmp 54) (Operand.const (Value.int IntKind.i64 0)) 3, type := 4, pos := "l08_runs.go:16", after := #[{ on := 31, ground := Ground.data }, { on := 30, ground := Ground.guard }], guard := some (30, false) }
def oSRun233 : Oper := { dst := some 56, op := Op.move (Operand.tmp 55), type := 4, pos := "l08_runs.go:16", after := #[{ on := 32, ground := Ground.data }, { on := 30, ground := Ground.chain }, { on := 30, ground := Ground.guard }], guard := some (30, false) }
def oSRun234 : Oper := { dst := some 57, op := Op.fieldAddr 25 (Operand.tmp 1) 0, type := 0, pos := "l08_runs.go:16", after := #[{ on := 33, ground := Ground.guard }], guard := some (33, true) }
def oSRun235 : Oper := { dst := some 58, op := Op.load 23 (Operand.tmp 57), type := 23, pos := "l08_runs.go:16", after := #[{ on := 34, ground := Ground.data }, { on := 33, ground := Ground.guard }], guard := some (33, true) }
def oSRun236 : Oper := { dst := some 59, op := Op.move (Operand.tmp 4), type := 3, pos := "l08_runs.go:16", after := #[{ on := 33, ground := Ground.guard }], guard := some (33, true) }
def oSRun237 : Oper := { dst := some 60, op := Op.binOp BinOp.sub 3 (Operand.tmp 59) (Operand.const (Value.int IntKind.i64 1)) 3, type := 3, pos := "l08_runs.go:16", after := #[{ on := 36, ground := Ground.data }, { on := 33, ground := Ground.guard }], guard := some (33, true) }
def oSRun238 : Oper := { dst := some 61, op := Op.indexAddr 23 (Operand.tmp 58) (Operand.tmp 60), type := 0, pos := "l08_runs.go:16", after := #[{ on := 35, ground := Ground.data }, { on := 37, ground := Ground.data }, { on := 33, ground := Ground.guard }], guard := some (33, true) }
def oSRun239 : Oper := { dst := some 62, op := Op.load 46 (Operand.tmp 61), type := 46, pos := "l08_runs.go:16", after := #[{ on := 38, ground := Ground.data }, { on := 33, ground := Ground.guard }], guard := some (33, true) }
def oSRun240 : Oper := { dst := some 63, op := Op.load 46 (Operand.tmp 5), type := 46, pos := "l08_runs.go:16", after := #[{ on := 33, ground := Ground.guard }], guard := some (33, true) }
def oSRun241 : Oper := { dst := some 65, op := Op.unOp UnOp.not 4 (Operand.tmp 64), type := 4, pos := "l08_runs.go:16", after := #[{ on := 41, ground := Ground.data }, { on := 33, ground := Ground.guard }], guard := some (33, true) }
def oSRun242 : Oper := { dst := some 66, op := Op.pick (Operand.tmp 56) (Operand.tmp 65) (Operand.const (Value.bool false)), type := 4, pos := "l08_runs.go:16", after := #[{ on := 33, ground := Ground.data }, { on := 42, ground := Ground.data }, { on := 30, ground := Ground.guard }], guard := some (30, false) }
def oSRun243 : Oper := { dst := some 67, op := Op.pick (Operand.tmp 53) (Operand.const (Value.bool true)) (Operand.tmp 66), type := 4, pos := "l08_runs.go:16", after := #[{ on := 30, ground := Ground.data }, { on := 43, ground := Ground.data }], guard := none }
def oSRun244 : Oper := { dst := some 68, op := Op.move (Operand.tmp 67), type := 4, pos := "l08_runs.go:16", after := #[{ on := 44, ground := Ground.data }, { on := 41, ground := Ground.chain }], guard := none }
def oSRun245 : Oper := { dst := some 69, op := Op.move (Operand.tmp 3), type := 59, pos := "l08_runs.go:16", after := #[{ on := 45, ground := Ground.guard }], guard := some (45, false) }
def oSRun246 : Oper := { dst := some 70, op := Op.fieldAddr 46 (Operand.tmp 5) 1, type := 0, pos := "l08_runs.go:16", after := #[{ on := 45, ground := Ground.guard }], guard := some (45, false) }
def oSRun247 : Oper := { dst := some 71, op := Op.load 2 (Operand.tmp 70), type := 2, pos := "l08_runs.go:16", after := #[{ on := 47, ground := Ground.data }, { on := 45, ground := Ground.guard }], guard := some (45, false) }
def oSRun248 : Oper := { dst := some 72, op := Op.call { callee := Callee.value (Operand.func 23), args := #[Operand.tmp 69, Operand.tmp 71], argTypes := #[59, 2] }, type := 4, pos := "l08_runs.go:16", after := #[{ on := 46, ground := Ground.data }, { on := 48, ground := Ground.data }, { on := 45, ground := Ground.chain }, { on := 45, ground := Ground.guard }], guard := some (45, false) }
def oSRun249 : Oper := { dst := some 73, op := Op.pick (Operand.tmp 68) (Operand.const (Value.bool true)) (Operand.tmp 72), type := 4, pos := "l08_runs.go:16", after := #[{ on := 45, ground := Ground.data }, { on := 49, ground := Ground.data }], guard := none }
theorem aS9 {α : Type} (l : List α) (i : Nat) (a : α) : l.toArray.setIfInBounds i a = (l.set i a).toArray := by simp
theorem bS9 {α : Type} (x a : α) (l : List α) : (x :: l).set 0 a = a :: l := rfl
theorem cS9 {α : Type} (x a : α) (l : List α) (i : Nat) : (x :: l).set (i + 1) a = x :: l.set i a := rfl
set_option maxRecDepth 20000 in
set_option maxHeartbeats 8000000 in
theorem sRunF (a : Option Addr) (n cap : Nat) (o : Nat → En) (hn : n ≤ 1048576) (hs : ∀ k, k < n → (o k).ky.size ≤ 1048576 ∧ (o k).tx.size ≤ 1048576) (w : World) (h : Ens w a n cap o) :
 Calls Tryz.prog 22 #[.agg #[.slice a n cap]] w fun e w' => e = .returned (.int .i64 (runV n o)) ∧ Below w.heap.size w w' := by
 have HH := hid h; have HS := hid hs; clear h hs; obtain ⟨W1, hW1⟩ : ∃ W, W = w.alloc (.cells #[.slice a n cap] 25) := ⟨_, rfl⟩; have R1 : Hid (RA W1 w.heap.size 25 #[.slice a n cap]) := by rw [hW1]; exact RA.new _ _ _
 have B1 : Hid (Below w.heap.size w W1) := by rw [hW1]; exact balEn (Below.refl _ _) _
 have r1 := R1.out.cell 0; have HW1 := hid hW1; clear hW1
 by_cases hbig : n ≤ 1000
 · have hbig' : ¬ (1000 : Int) < (n : Int) := by omega
   go_enter Tryz.func22, Tryz.ntmps22
   go_upto_region 1 with fail
   rw [← HW1.out]
   go_wp2_with fail
   clear r1
   go_loopw [4, 3] (fun q v wr => ∃ k : Nat, k ≤ n ∧ q = .int .i64 k ∧ runTo k o ∧ OwnNums wr W1.heap.size 2 .i64 v (sqL o k) ∧ Below W1.heap.size W1 wr) (fun q _ _ => n - (intOf q).toNat)
   case atStart => exact ⟨0, Nat.zero_le _, rfl, runTo_zero o, OwnNums.empty W1 _ _, (Below.refl _ _).alloc (Nat.le_refl _) _⟩
   case round =>
    obtain ⟨k, hk, rfl, hf, hO, hB⟩ := hrel; have HF := hid hf; have HB := hid hB; have HO := hid hO; have HWB := hid (B1.out.trans (hB.mono B1.out.size)); have r2 := (R1.out.below hB R1.out.lt).cell 0; clear hf hB hO
    by_cases hlt : k < n
    · have hlt' : (k : Int) < (n : Int) := by omega
      have k0 : (0 : Int) ≤ (k : Int) := by omega
      obtain ⟨av, cv, rfl, hIv, hcv⟩ := own_intsR HO.out; have HIv := hid hIv; have HLv : Hid ((sqL o k).length = k) := sqL_len o k; have hS := hid (runTo_succ (n := k) (o := o))
      rcases (HH.out.below HWB.out).2 with h00 | ⟨b, off, rfl, hbl, hcc⟩
      · omega
      have HCC := hid hcc; obtain ⟨c0, c1, c2, c3⟩ := hcc k hlt; obtain ⟨s0, s3⟩ := HS.out k hlt; have HE : Hid (o k = (⟨(o k).ky, (o k).sq, (o k).gn, (o k).tx⟩ : En)) := rfl; obtain ⟨X0, hX0⟩ : ∃ v, v = (o k).ky := ⟨_, rfl⟩; obtain ⟨X1, hX1⟩ : ∃ v, v = (o k).sq := ⟨_, rfl⟩; obtain ⟨X2, hX2⟩ : ∃ v, v = (o k).gn := ⟨_, rfl⟩; obtain ⟨X3, hX3⟩ : ∃ v, v = (o k).tx := ⟨_, rfl⟩; rw [← hX0, ← hX1, ← hX2, ← hX3] at HE; rw [← hX0] at c0 s0; rw [← hX1] at c1; rw [← hX2] at c2; rw [← hX3] at c3 s3; clear hcc hX0 hX1 hX2 hX3 hIv; have KNO : Hid (¬ runTo (k + 1) o → runV n o = 1) := fun h => runV_no fun q => h (runTo_mono q.2 (by omega)); rw [HE.out] at hS; have B2 : Hid (Below W1.heap.size W1 (wr.alloc (.cells #[.string X0, .int .i64 X1, .bool X2, .string X3] 46))) := HB.out.alloc HB.out.size _; have G2 : Hid (Below wr.heap.size wr (wr.alloc (.cells #[.string X0, .int .i64 X1, .bool X2, .string X3] 46))) := (Below.refl _ _).alloc (Nat.le_refl _) _; have hJ := RA.new wr 46 #[.string X0, .int .i64 X1, .bool X2, .string X3]; have hRr := ((R1.out.below HB.out R1.out.lt).alloc (.cells #[.string X0, .int .i64 X1, .bool X2, .string X3] 46)); have hI2 := hid (HIv.out.alloc (.cells #[.string X0, .int .i64 X1, .bool X2, .string X3] 46)); have hO2 := hid (OwnNums.al HO.out (.cells #[.string X0, .int .i64 X1, .bool X2, .string X3] 46))
      go_upto_region 8 with ((refine wpList_store_row rfl 46 (.tmp 5) (.tmp 22) rfl wr.heap.size #[.string X0, .int .i64 X1, .bool X2, .string X3] rfl rfl _ _ (RA.new wr _ _) (by kernel_rfl) rfl (oneEn4 _ _ _ _) ?_); rw [World.setRow_alloc_new])
      obtain ⟨W2, hW2⟩ : ∃ W, W = wr.alloc (.cells #[.string X0, .int .i64 X1, .bool X2, .string X3] 46) := ⟨_, rfl⟩; rw [← hW2] at B2 G2 hJ hRr hI2 hO2 ⊢; clear hW2 c0 c1 c2 c3 r2 HO HIv; have q0 := hJ.cell 0; have q1 := hJ.cell 1; have q2 := hJ.cell 2; have q3 := hJ.cell 3; have q4 := hRr.cell 0; have HJ := hid hJ; have HR := hid hRr; clear hJ hRr; obtain ⟨BB, hBB⟩ : ∃ b : Bool, (b = true ↔ ¬ runTo (k + 1) o) := ⟨@decide (¬ runTo (k + 1) o) (Classical.propDecidable _), by simp⟩; have HBB := hid hBB; clear hBB; simp only [Act.put]
      go_cut [73] from 23 to 73 (fun c wx => c = .bool BB ∧ Below W2.heap.size W2 wx)
      case first =>
       rcases Nat.lt_or_ge X0.size 1 with h1 | h1
       · have d1 : decide ((X0.size : Int) < 1) = true := by simp; omega
         have E : Hid (BB = true) := HBB.out.2 fun h => absurd (hS.out.1 h).2.1.1 (by show ¬ 1 ≤ X0.size; omega); clear HBB HJ HR B2 G2 hI2 hO2 KNO HE HF HB HWB HS HH HLv HCC B1 R1 HW1 hS
         go_quiet (fail)
         go_wp2
         go_meet
         exact ⟨by rw [E.out], below_dN (Below.refl _ _) _⟩
       have d1 : decide ((X0.size : Int) < 1) = false := by simp; omega
       rcases Nat.lt_or_ge 200 X0.size with h2 | h2
       · have d2 : decide ((200 : Int) < (X0.size : Int)) = true := by simp; omega
         have E : Hid (BB = true) := HBB.out.2 fun h => absurd (hS.out.1 h).2.1.2.1 (by show ¬ X0.size ≤ _; omega); clear HBB HJ HR B2 G2 hI2 hO2 KNO HE HF HB HWB HS HH HLv HCC B1 R1 HW1 hS
         go_quiet (fail)
         go_wp2
         go_meet
         exact ⟨by rw [E.out], below_dN (Below.refl _ _) _⟩
       have d2 : decide ((200 : Int) < (X0.size : Int)) = false := by simp; omega
       rcases Int.lt_or_le X1 1 with h3 | h3
       · have d3 : decide (X1 < 1) = true := by simp; omega
         have E : Hid (BB = true) := HBB.out.2 fun h => absurd (hS.out.1 h).2.1.2.2.1 (by show ¬ 1 ≤ X1; omega); clear HBB HJ HR B2 G2 hI2 hO2 KNO HE HF HB HWB HS HH HLv HCC B1 R1 HW1 hS
         go_quiet (fail)
         go_wp2
         go_meet
         exact ⟨by rw [E.out], below_dN (Below.refl _ _) _⟩
       have d3 : decide (X1 < 1) = false := by simp; omega
       cases X2 with
       | false =>
        have h4 : ¬ (false = true ∧ X3 ≠ ⟨#[]⟩) := fun h => by cases h.1
        rcases Nat.lt_or_ge 100000 X3.size with h5 | h5
        · have d5 : decide ((100000 : Int) < (X3.size : Int)) = true := by simp; omega
          have E : Hid (BB = true) := HBB.out.2 fun h => absurd (hS.out.1 h).2.1.2.2.2.2 (by show ¬ X3.size ≤ _; omega); clear HBB HJ HR B2 G2 hI2 hO2 KNO HE HF HB HWB HS HH HLv HCC B1 R1 HW1 hS
          go_quiet (fail)
          go_wp2
          go_meet
          exact ⟨by rw [E.out], below_dN (Below.refl _ _) _⟩
        have d5 : decide ((100000 : Int) < (X3.size : Int)) = false := by simp; omega
        rcases Nat.eq_zero_or_pos k with hk0 | hk0
        · subst hk0
          cases hin : decide (X1 ∈ sqL o 0) with
          | true => simp [sqL] at hin
          | false =>
           have E : Hid (BB = false) := by
            have hgo : runTo (0 + 1) o := hS.out.2 ⟨HF.out, ⟨h1, h2, h3, h4, h5⟩, (fun h => absurd h (by omega)), by simpa using hin⟩
            cases hb : BB with
            | false => rfl
            | true => exact absurd hgo (HBB.out.1 hb)
           have hz : (sqL o 0).length = 0 := rfl; rw [hz] at hI2 ⊢; have KI := fun x => hid (sInI8 av 0 cv (sqL o 0) X1 (by omega) (W2.drewN x) (ints_dN hI2.out x)); rw [hin] at KI; clear HBB HJ HR B2 G2 hO2 hI2 KNO HE HF HB HWB HS HH HLv HCC B1 R1 HW1 hS hin hz
           go_quiet ((first | (go_at_call 23; refine (KI _).out.mono ?_; rintro e w4 ⟨rfl, rfl⟩; exact ⟨rfl, _, rfl⟩)))
           go_wp2
           go_meet
           exact ⟨by rw [E.out], below_dN (Below.refl _ _) _⟩
        obtain ⟨j, hj⟩ : ∃ j, j = k - 1 := ⟨_, rfl⟩; obtain ⟨e0, e1, e2, e3⟩ := HCC.out j (by omega); have HY : Hid (o j = (⟨(o j).ky, (o j).sq, (o j).gn, (o j).tx⟩ : En)) := rfl; obtain ⟨Y0, hY0⟩ : ∃ v, v = (o j).ky := ⟨_, rfl⟩; obtain ⟨Y1, hY1⟩ : ∃ v, v = (o j).sq := ⟨_, rfl⟩; obtain ⟨Y2, hY2⟩ : ∃ v, v = (o j).gn := ⟨_, rfl⟩; obtain ⟨Y3, hY3⟩ : ∃ v, v = (o j).tx := ⟨_, rfl⟩; rw [← hY0, ← hY1, ← hY2, ← hY3] at HY; rw [← hY0] at e0; rw [← hY1] at e1; rw [← hY2] at e2; rw [← hY3] at e3; replace e0 := (G2.out.cell hbl).trans e0; replace e1 := (G2.out.cell hbl).trans e1; replace e2 := (G2.out.cell hbl).trans e2; replace e3 := (G2.out.cell hbl).trans e3; have HJK := hid hj; have m2 : (k : Int) - 1 = (j : Int) := by omega
        have m3 : (0 : Int) ≤ (j : Int) := by omega
        have m4 : (j : Int) < (n : Int) := by omega
        have m5 : IntKind.i64.wrap ((k : Int) - 1) = (j : Int) := by rw [m2]; simp [IntKind.wrap, IntKind.bits, IntKind.signed]; omega
        have m6 : decide ((0 : Int) < (k : Int)) = true := by simp; omega
        have K6 := fun w => hid (sLess Y0 Y1 Y2 Y3 X0 X1 false X3 w); clear hY0 hY1 hY2 hY3 hj m2; have hlb : b < W2.drew.heap.size := Nat.lt_of_lt_of_le hbl G2.out.size
        cases hls : ltB ⟨Y0, Y1, Y2, Y3⟩ ⟨X0, X1, false, X3⟩ with
        | false =>
         have E : Hid (BB = true) := HBB.out.2 fun h => by
          have := (hS.out.1 h).2.2.1 hk0; rw [show k - 1 = j from HJK.out.symm, HY.out] at this; rw [ltB_t this] at hls; cases hls
         rw [hls] at K6; clear HBB B2 hO2 KNO HE HF HB HWB HS HH HCC B1 R1 HW1 hS hls HY HJK; clear HLv hI2; refine wp_region_held_drew (S := (fun wx => (wx.cell? ⟨wr.heap.size, 0, none⟩ = some (.string X0) ∧ wx.cell? ⟨wr.heap.size, 1, none⟩ = some (.int .i64 X1) ∧ wx.cell? ⟨wr.heap.size, 2, none⟩ = some (.bool false) ∧ wx.cell? ⟨wr.heap.size, 3, none⟩ = some (.string X3)) ∧ wx.cell? ⟨w.heap.size, 0, none⟩ = some (.slice (some ⟨b, off, none⟩) n cap) ∧ wx.cell? ⟨b, off + j * 4, none⟩ = some (.string Y0) ∧ wx.cell? ⟨b, off + j * 4 + 1, none⟩ = some (.int .i64 Y1) ∧ wx.cell? ⟨b, off + j * 4 + 2, none⟩ = some (.bool Y2) ∧ wx.cell? ⟨b, off + j * 4 + 3, none⟩ = some (.string Y3))) (by kernel_rfl) ?_ (fun hHeld => ?_)
         · exact ⟨⟨HJ.out.cell 0, HJ.out.cell 1, HJ.out.cell 2, HJ.out.cell 3⟩, HR.out.cell 0, e0, e1, e2, e3⟩
         refine wpAnyH_take (i := 0) (oi := oSRun20) (v := ?v1x0) rfl (by kernel_rfl) (by kernel_rfl) (by kernel_rfl) (fun _ _ _ h => h) (Or.inl ⟨by rfl, ?hy1x0⟩) hHeld ?rest1x0
         case hy1x0 => (unfold oSRun20; intro w hSw; (try dsimp only at hSw); go_simp; try with_reducible rfl)
         simp only [oSRun20, Act.put, aS9, bS9, cS9]; refine wpAnyH_take (i := 1) (oi := oSRun21) (v := ?v1x1) rfl (by kernel_rfl) (by kernel_rfl) (by kernel_rfl) (fun _ _ _ h => h) (Or.inl ⟨by rfl, ?hy1x1⟩) hHeld ?rest1x1
         case hy1x1 => (unfold oSRun21; intro w hSw; (try dsimp only at hSw); go_simp; try with_reducible rfl)
         simp only [oSRun21, Act.put, aS9, bS9, cS9]; refine wpAnyH_take (i := 2) (oi := oSRun22) (v := ?v1x2) rfl (by kernel_rfl) (by kernel_rfl) (by kernel_rfl) (fun _ _ _ h => h) (Or.inl ⟨by rfl, ?hy1x2⟩) hHeld ?rest1x2
         case hy1x2 => (unfold oSRun22; intro w hSw; (try dsimp only at hSw); go_simp; try with_reducible rfl)
         simp only [oSRun22, Act.put, aS9, bS9, cS9]; refine wpAnyH_take (i := 3) (oi := oSRun23) (v := ?v1x3) rfl (by kernel_rfl) (by kernel_rfl) (by kernel_rfl) (fun _ _ _ h => h) (Or.inl ⟨by rfl, ?hy1x3⟩) hHeld ?rest1x3
         case hy1x3 => (unfold oSRun23; intro w hSw; (try dsimp only at hSw); go_simp; try with_reducible rfl)
         simp only [oSRun23, Act.put, aS9, bS9, cS9]; refine wpAnyH_take (i := 4) (oi := oSRun24) (v := ?v1x4) rfl (by kernel_rfl) (by kernel_rfl) (by kernel_rfl) (fun _ _ _ h => h) (Or.inl ⟨by rfl, ?hy1x4⟩) hHeld ?rest1x4
         case hy1x4 => (unfold oSRun24; intro w hSw; (try dsimp only at hSw); go_simp; try with_reducible rfl)
         simp only [oSRun24, Act.put, aS9, bS9, cS9]; refine wpAnyH_take (i := 5) (oi := oSRun25) (v := ?v1x5) rfl (by kernel_rfl) (by kernel_rfl) (by kernel_rfl) (fun _ _ _ h => h) (Or.inl ⟨by rfl, ?hy1x5⟩) hHeld ?rest1x5
         case hy1x5 => (unfold oSRun25; intro w hSw; (try dsimp only at hSw); go_simp; try with_reducible rfl)
         simp only [oSRun25, Act.put, aS9, bS9, cS9]; refine wpAnyH_take (i := 6) (oi := oSRun26) (v := ?v1x6) rfl (by kernel_rfl) (by kernel_rfl) (by kernel_rfl) (fun _ _ _ h => h) (Or.inl ⟨by rfl, ?hy1x6⟩) hHeld ?rest1x6
         case hy1x6 => (unfold oSRun26; intro w hSw; (try dsimp only at hSw); go_simp; try with_reducible rfl)
         simp only [oSRun26, Act.put, aS9, bS9, cS9]; refine wpAnyH_take (i := 7) (oi := oSRun27) (v := ?v1x7) rfl (by kernel_rfl) (by kernel_rfl) (by kernel_rfl) (fun _ _ _ h => h) (Or.inl ⟨by rfl, ?hy1x7⟩) hHeld ?rest1x7
         case hy1x7 => (unfold oSRun27; intro w hSw; (try dsimp only at hSw); go_simp; try with_reducible rfl)
         simp only [oSRun27, Act.put, aS9, bS9, cS9]; refine wpAnyH_take (i := 8) (oi := oSRun28) (v := ?v1x8) rfl (by kernel_rfl) (by kernel_rfl) (by kernel_rfl) (fun _ _ _ h => h) (Or.inl ⟨by rfl, ?hy1x8⟩) hHeld ?rest1x8
         case hy1x8 => (unfold oSRun28; intro w hSw; (try dsimp only at hSw); go_simp; try with_reducible rfl)
         simp only [oSRun28, Act.put, aS9, bS9, cS9]; refine wpAnyH_take (i := 9) (oi := oSRun29) (v := ?v1x9) rfl (by kernel_rfl) (by kernel_rfl) (by kernel_rfl) (fun _ _ _ h => h) (Or.inl ⟨by rfl, ?hy1x9⟩) hHeld ?rest1x9
         case hy1x9 => (unfold oSRun29; intro w hSw; (try dsimp only at hSw); go_simp; try with_reducible rfl)
         simp only [oSRun29, Act.put, aS9, bS9, cS9]; refine wpAnyH_take (i := 10) (oi := oSRun210) (v := ?v1x10) rfl (by kernel_rfl) (by kernel_rfl) (by kernel_rfl) (fun _ _ _ h => h) (Or.inl ⟨by rfl, ?hy1x10⟩) hHeld ?rest1x10
         case hy1x10 => (unfold oSRun210; intro w hSw; (try dsimp only at hSw); go_simp; try with_reducible rfl)
         simp only [oSRun210, Act.put, aS9, bS9, cS9]; refine wpAnyH_take (i := 11) (oi := oSRun211) (v := ?v1x11) rfl (by kernel_rfl) (by kernel_rfl) (by kernel_rfl) (fun _ _ _ h => h) (Or.inl ⟨by rfl, ?hy1x11⟩) hHeld ?rest1x11
         case hy1x11 => (unfold oSRun211; intro w hSw; (try dsimp only at hSw); go_simp; try with_reducible rfl)
         simp only [oSRun211, Act.put, aS9, bS9, cS9]; refine wpAnyH_take (i := 12) (oi := oSRun212) (v := ?v1x12) rfl (by kernel_rfl) (by kernel_rfl) (by kernel_rfl) (fun _ _ _ h => h) (Or.inl ⟨by rfl, ?hy1x12⟩) hHeld ?rest1x12
         case hy1x12 => (unfold oSRun212; intro w hSw; (try dsimp only at hSw); go_simp; try with_reducible rfl)
         simp only [oSRun212, Act.put, aS9, bS9, cS9]; refine wpAnyH_take (i := 13) (oi := oSRun213) (v := ?v1x13) rfl (by kernel_rfl) (by kernel_rfl) (by kernel_rfl) (fun _ _ _ h => h) (Or.inl ⟨by rfl, ?hy1x13⟩) hHeld ?rest1x13
         case hy1x13 => (unfold oSRun213; intro w hSw; (try dsimp only at hSw); go_simp; try with_reducible rfl)
         simp only [oSRun213, Act.put, aS9, bS9, cS9]; refine wpAnyH_take (i := 14) (oi := oSRun214) (v := ?v1x14) rfl (by kernel_rfl) (by kernel_rfl) (by kernel_rfl) (fun _ _ _ h => h) (Or.inl ⟨by rfl, ?hy1x14⟩) hHeld ?rest1x14
         case hy1x14 => (unfold oSRun214; intro w hSw; (try dsimp only at hSw); go_simp; try with_reducible rfl)
         simp only [oSRun214, Act.put, aS9, bS9, cS9]; refine wpAnyH_take (i := 15) (oi := oSRun215) (v := ?v1x15) rfl (by kernel_rfl) (by kernel_rfl) (by kernel_rfl) (fun _ _ _ h => h) (Or.inl ⟨by rfl, ?hy1x15⟩) hHeld ?rest1x15
         case hy1x15 => (unfold oSRun215; intro w hSw; (try dsimp only at hSw); go_simp; try with_reducible rfl)
         simp only [oSRun215, Act.put, aS9, bS9, cS9]; refine wpAnyH_take (i := 16) (oi := oSRun216) (v := ?v1x16) rfl (by kernel_rfl) (by kernel_rfl) (by kernel_rfl) (fun _ _ _ h => h) (Or.inl ⟨by rfl, ?hy1x16⟩) hHeld ?rest1x16
         case hy1x16 => (unfold oSRun216; intro w hSw; (try dsimp only at hSw); go_simp; try with_reducible rfl)
         simp only [oSRun216, Act.put, aS9, bS9, cS9]; refine wpAnyH_take (i := 17) (oi := oSRun217) (v := ?v1x17) rfl (by kernel_rfl) (by kernel_rfl) (by kernel_rfl) (fun _ _ _ h => h) (Or.inl ⟨by rfl, ?hy1x17⟩) hHeld ?rest1x17
         case hy1x17 => (unfold oSRun217; intro w hSw; (try dsimp only at hSw); go_simp; try with_reducible rfl)
         simp only [oSRun217, Act.put, aS9, bS9, cS9]; refine wpAnyH_take (i := 18) (oi := oSRun218) (v := ?v1x18) rfl (by kernel_rfl) (by kernel_rfl) (by kernel_rfl) (fun _ _ _ h => h) (Or.inl ⟨by rfl, ?hy1x18⟩) hHeld ?rest1x18
         case hy1x18 => (unfold oSRun218; intro w hSw; (try dsimp only at hSw); go_simp; try with_reducible rfl)
         simp only [oSRun218, Act.put, aS9, bS9, cS9]; refine wpAnyH_take (i := 19) (oi := oSRun219) (v := undef) rfl (by kernel_rfl) (by kernel_rfl) (by kernel_rfl) (fun _ _ _ h => h) (Or.inr ⟨by rfl, rfl⟩) hHeld ?_; simp only [oSRun219, Act.put, aS9, bS9, cS9]; refine wpAnyH_take (i := 20) (oi := oSRun220) (v := undef) rfl (by kernel_rfl) (by kernel_rfl) (by kernel_rfl) (fun _ _ _ h => h) (Or.inr ⟨by rfl, rfl⟩) hHeld ?_; simp only [oSRun220, Act.put, aS9, bS9, cS9]; refine wpAnyH_take (i := 21) (oi := oSRun221) (v := undef) rfl (by kernel_rfl) (by kernel_rfl) (by kernel_rfl) (fun _ _ _ h => h) (Or.inr ⟨by rfl, rfl⟩) hHeld ?_; simp only [oSRun221, Act.put, aS9, bS9, cS9]; refine wpAnyH_take (i := 22) (oi := oSRun222) (v := ?v1x22) rfl (by kernel_rfl) (by kernel_rfl) (by kernel_rfl) (fun _ _ _ h => h) (Or.inl ⟨by rfl, ?hy1x22⟩) hHeld ?rest1x22
         case hy1x22 => (unfold oSRun222; intro w hSw; (try dsimp only at hSw); go_simp; try with_reducible rfl)
         simp only [oSRun222, Act.put, aS9, bS9, cS9]; refine wpAnyH_take (i := 23) (oi := oSRun223) (v := ?v1x23) rfl (by kernel_rfl) (by kernel_rfl) (by kernel_rfl) (fun _ _ _ h => h) (Or.inl ⟨by rfl, ?hy1x23⟩) hHeld ?rest1x23
         case hy1x23 => (unfold oSRun223; intro w hSw; (try dsimp only at hSw); go_simp; try with_reducible rfl)
         simp only [oSRun223, Act.put, aS9, bS9, cS9]; refine wpAnyH_take (i := 24) (oi := oSRun224) (v := ?v1x24) rfl (by kernel_rfl) (by kernel_rfl) (by kernel_rfl) (fun _ _ _ h => h) (Or.inl ⟨by rfl, ?hy1x24⟩) hHeld ?rest1x24
         case hy1x24 => (unfold oSRun224; intro w hSw; (try dsimp only at hSw); go_simp; try with_reducible rfl)
         simp only [oSRun224, Act.put, aS9, bS9, cS9]; refine wpAnyH_take (i := 25) (oi := oSRun225) (v := ?v1x25) rfl (by kernel_rfl) (by kernel_rfl) (by kernel_rfl) (fun _ _ _ h => h) (Or.inl ⟨by rfl, ?hy1x25⟩) hHeld ?rest1x25
         case hy1x25 => (unfold oSRun225; intro w hSw; (try dsimp only at hSw); go_simp; try with_reducible rfl)
         simp only [oSRun225, Act.put, aS9, bS9, cS9]; refine wpAnyH_take (i := 26) (oi := oSRun226) (v := ?v1x26) rfl (by kernel_rfl) (by kernel_rfl) (by kernel_rfl) (fun _ _ _ h => h) (Or.inl ⟨by rfl, ?hy1x26⟩) hHeld ?rest1x26
         case hy1x26 => (unfold oSRun226; intro w hSw; (try dsimp only at hSw); go_simp; try with_reducible rfl)
         simp only [oSRun226, Act.put, aS9, bS9, cS9]; refine wpAnyH_take (i := 27) (oi := oSRun227) (v := ?v1x27) rfl (by kernel_rfl) (by kernel_rfl) (by kernel_rfl) (fun _ _ _ h => h) (Or.inl ⟨by rfl, ?hy1x27⟩) hHeld ?rest1x27
         case hy1x27 => (unfold oSRun227; intro w hSw; (try dsimp only at hSw); go_simp; try with_reducible rfl)
         simp only [oSRun227, Act.put, aS9, bS9, cS9]; refine wpAnyH_take (i := 28) (oi := oSRun228) (v := ?v1x28) rfl (by kernel_rfl) (by kernel_rfl) (by kernel_rfl) (fun _ _ _ h => h) (Or.inl ⟨by rfl, ?hy1x28⟩) hHeld ?rest1x28
         case hy1x28 => (unfold oSRun228; intro w hSw; (try dsimp only at hSw); go_simp; try with_reducible rfl)
         simp only [oSRun228, Act.put, aS9, bS9, cS9]; refine wpAnyH_take (i := 29) (oi := oSRun229) (v := ?v1x29) rfl (by kernel_rfl) (by kernel_rfl) (by kernel_rfl) (fun _ _ _ h => h) (Or.inl ⟨by rfl, ?hy1x29⟩) hHeld ?rest1x29
         case hy1x29 => (unfold oSRun229; intro w hSw; (try dsimp only at hSw); go_simp; try with_reducible rfl)
         simp only [oSRun229, Act.put, aS9, bS9, cS9]; refine wpAnyH_take (i := 30) (oi := oSRun230) (v := ?v1x30) rfl (by kernel_rfl) (by kernel_rfl) (by kernel_rfl) (fun _ _ _ h => h) (Or.inl ⟨by rfl, ?hy1x30⟩) hHeld ?rest1x30
         case hy1x30 => (unfold oSRun230; intro w hSw; (try dsimp only at hSw); go_simp; try with_reducible rfl)
         simp only [oSRun230, Act.put, aS9, bS9, cS9]; refine wpAnyH_take (i := 31) (oi := oSRun231) (v := ?v1x31) rfl (by kernel_rfl) (by kernel_rfl) (by kernel_rfl) (fun _ _ _ h => h) (Or.inl ⟨by rfl, ?hy1x31⟩) hHeld ?rest1x31
         case hy1x31 => (unfold oSRun231; intro w hSw; (try dsimp only at hSw); go_simp; try with_reducible rfl)
         simp only [oSRun231, Act.put, aS9, bS9, cS9]; refine wpAnyH_take (i := 32) (oi := oSRun232) (v := ?v1x32) rfl (by kernel_rfl) (by kernel_rfl) (by kernel_rfl) (fun _ _ _ h => h) (Or.inl ⟨by rfl, ?hy1x32⟩) hHeld ?rest1x32
         case hy1x32 => (unfold oSRun232; intro w hSw; (try dsimp only at hSw); go_simp; try with_reducible rfl)
         simp only [oSRun232, Act.put, aS9, bS9, cS9]; refine wpAnyH_take (i := 33) (oi := oSRun233) (v := ?v1x33) rfl (by kernel_rfl) (by kernel_rfl) (by kernel_rfl) (fun _ _ _ h => h) (Or.inl ⟨by rfl, ?hy1x33⟩) hHeld ?rest1x33
         case hy1x33 => (unfold oSRun233; intro w hSw; (try dsimp only at hSw); go_simp; try with_reducible rfl)
         simp only [oSRun233, Act.put, aS9, bS9, cS9]; refine wpAnyH_take (i := 34) (oi := oSRun234) (v := ?v1x34) rfl (by kernel_rfl) (by kernel_rfl) (by kernel_rfl) (fun _ _ _ h => h) (Or.inl ⟨by rfl, ?hy1x34⟩) hHeld ?rest1x34
         case hy1x34 => (unfold oSRun234; intro w hSw; (try dsimp only at hSw); go_simp; try with_reducible rfl)
         simp only [oSRun234, Act.put, aS9, bS9, cS9]; refine wpAnyH_take (i := 35) (oi := oSRun235) (v := ?v1x35) rfl (by kernel_rfl) (by kernel_rfl) (by kernel_rfl) (fun _ _ _ h => h) (Or.inl ⟨by rfl, ?hy1x35⟩) hHeld ?rest1x35
         case hy1x35 => (unfold oSRun235; intro w hSw; (try dsimp only at hSw); go_simp; try with_reducible rfl)
         simp only [oSRun235, Act.put, aS9, bS9, cS9]; refine wpAnyH_take (i := 36) (oi := oSRun236) (v := ?v1x36) rfl (by kernel_rfl) (by kernel_rfl) (by kernel_rfl) (fun _ _ _ h => h) (Or.inl ⟨by rfl, ?hy1x36⟩) hHeld ?rest1x36
         case hy1x36 => (unfold oSRun236; intro w hSw; (try dsimp only at hSw); go_simp; try with_reducible rfl)
         simp only [oSRun236, Act.put, aS9, bS9, cS9]; refine wpAnyH_take (i := 37) (oi := oSRun237) (v := ?v1x37) rfl (by kernel_rfl) (by kernel_rfl) (by kernel_rfl) (fun _ _ _ h => h) (Or.inl ⟨by rfl, ?hy1x37⟩) hHeld ?rest1x37
         case hy1x37 => (unfold oSRun237; intro w hSw; (try dsimp only at hSw); go_simp; try with_reducible rfl)
         simp only [oSRun237, Act.put, aS9, bS9, cS9]; refine wpAnyH_take (i := 38) (oi := oSRun238) (v := ?v1x38) rfl (by kernel_rfl) (by kernel_rfl) (by kernel_rfl) (fun _ _ _ h => h) (Or.inl ⟨by rfl, ?hy1x38⟩) hHeld ?rest1x38
         case hy1x38 => (unfold oSRun238; intro w hSw; (try dsimp only at hSw); go_simp; try with_reducible rfl)
         simp only [oSRun238, Act.put, aS9, bS9, cS9]; refine wpAnyH_take (i := 39) (oi := oSRun239) (v := ?v1x39) rfl (by kernel_rfl) (by kernel_rfl) (by kernel_rfl) (fun _ _ _ h => h) (Or.inl ⟨by rfl, ?hy1x39⟩) hHeld ?rest1x39
         case hy1x39 => (unfold oSRun239; intro w hSw; (try dsimp only at hSw); go_simp; try with_reducible rfl)
         simp only [oSRun239, Act.put, aS9, bS9, cS9]; refine wpAnyH_take (i := 40) (oi := oSRun240) (v := ?v1x40) rfl (by kernel_rfl) (by kernel_rfl) (by kernel_rfl) (fun _ _ _ h => h) (Or.inl ⟨by rfl, ?hy1x40⟩) hHeld ?rest1x40
         case hy1x40 => (unfold oSRun240; intro w hSw; (try dsimp only at hSw); go_simp; try with_reducible rfl)
         simp only [oSRun240, Act.put, aS9, bS9, cS9]; refine wpAnyH_ready (rs := [41]) (by kernel_rfl) (by simp) ?_
         refine AllReadyH.cons (o := { dst := some 64, op := Op.call { callee := Callee.value (Operand.func 41), args := #[Operand.tmp 62, Operand.tmp 63], argTypes := #[46, 46] }, type := 4, pos := "l08_runs.go:16", after := #[{ on := 39, ground := Ground.data }, { on := 40, ground := Ground.data }, { on := 33, ground := Ground.chain }, { on := 33, ground := Ground.guard }], guard := some (33, true) }) rfl (fun K hK => ?_) AllReadyH.nil
         go_simp
         refine (K6 _).out.mono ?_
         rintro e w3 ⟨rfl, hb⟩
         have HJ3 := hid (RA.nx hb HJ.out.drew); have HR3 := hid (RA.nx hb HR.out.drew)
         go_wp2_with fail
         refine hK.out _ _ ?_ (fun hHeld => ?_)
         · exact ⟨⟨HJ3.out.cell 0, HJ3.out.cell 1, HJ3.out.cell 2, HJ3.out.cell 3⟩, HR3.out.cell 0, (hb.cell hlb).trans e0, (hb.cell hlb).trans e1, (hb.cell hlb).trans e2, (hb.cell hlb).trans e3⟩
         clear hK K
         try simp only [Act.put, aS9, bS9, cS9]
         refine wpAnyH_take (i := 42) (oi := oSRun241) (v := ?v1x42) rfl (by kernel_rfl) (by kernel_rfl) (by kernel_rfl) (fun _ _ _ h => h) (Or.inl ⟨by rfl, ?hy1x42⟩) hHeld ?rest1x42
         case hy1x42 => (unfold oSRun241; intro w hSw; (try dsimp only at hSw); go_simp; try with_reducible rfl)
         simp only [oSRun241, Act.put, aS9, bS9, cS9]; refine wpAnyH_take (i := 43) (oi := oSRun242) (v := ?v1x43) rfl (by kernel_rfl) (by kernel_rfl) (by kernel_rfl) (fun _ _ _ h => h) (Or.inl ⟨by rfl, ?hy1x43⟩) hHeld ?rest1x43
         case hy1x43 => (unfold oSRun242; intro w hSw; (try dsimp only at hSw); go_simp; try with_reducible rfl)
         simp only [oSRun242, Act.put, aS9, bS9, cS9]; refine wpAnyH_take (i := 44) (oi := oSRun243) (v := ?v1x44) rfl (by kernel_rfl) (by kernel_rfl) (by kernel_rfl) (fun _ _ _ h => h) (Or.inl ⟨by rfl, ?hy1x44⟩) hHeld ?rest1x44
         case hy1x44 => (unfold oSRun243; intro w hSw; (try dsimp only at hSw); go_simp; try with_reducible rfl)
         simp only [oSRun243, Act.put, aS9, bS9, cS9]; refine wpAnyH_take (i := 45) (oi := oSRun244) (v := ?v1x45) rfl (by kernel_rfl) (by kernel_rfl) (by kernel_rfl) (fun _ _ _ h => h) (Or.inl ⟨by rfl, ?hy1x45⟩) hHeld ?rest1x45
         case hy1x45 => (unfold oSRun244; intro w hSw; (try dsimp only at hSw); go_simp; try with_reducible rfl)
         simp only [oSRun244, Act.put, aS9, bS9, cS9]; refine wpAnyH_take (i := 46) (oi := oSRun245) (v := undef) rfl (by kernel_rfl) (by kernel_rfl) (by kernel_rfl) (fun _ _ _ h => h) (Or.inr ⟨by rfl, rfl⟩) hHeld ?_; simp only [oSRun245, Act.put, aS9, bS9, cS9]; refine wpAnyH_take (i := 47) (oi := oSRun246) (v := undef) rfl (by kernel_rfl) (by kernel_rfl) (by kernel_rfl) (fun _ _ _ h => h) (Or.inr ⟨by rfl, rfl⟩) hHeld ?_; simp only [oSRun246, Act.put, aS9, bS9, cS9]; refine wpAnyH_take (i := 48) (oi := oSRun247) (v := undef) rfl (by kernel_rfl) (by kernel_rfl) (by kernel_rfl) (fun _ _ _ h => h) (Or.inr ⟨by rfl, rfl⟩) hHeld ?_; simp only [oSRun247, Act.put, aS9, bS9, cS9]; refine wpAnyH_take (i := 49) (oi := oSRun248) (v := undef) rfl (by kernel_rfl) (by kernel_rfl) (by kernel_rfl) (fun _ _ _ h => h) (Or.inr ⟨by rfl, rfl⟩) hHeld ?_; simp only [oSRun248, Act.put, aS9, bS9, cS9]; refine wpAnyH_take (i := 50) (oi := oSRun249) (v := ?v1x50) rfl (by kernel_rfl) (by kernel_rfl) (by kernel_rfl) (fun _ _ _ h => h) (Or.inl ⟨by rfl, ?hy1x50⟩) hHeld ?rest1x50
         case hy1x50 => (unfold oSRun249; intro w hSw; (try dsimp only at hSw); go_simp; try with_reducible rfl)
         simp only [oSRun249, Act.put, aS9, bS9, cS9]; refine wpAnyH_done (by kernel_rfl) ?_ _
         go_wp2
         go_meet
         exact ⟨by rw [E.out], (below_dN (Below.refl _ W2) 1).trans hb⟩
        | true =>
         have E : Hid (BB = decide (X1 ∈ sqL o k)) := by
          have h6 : 0 < k → enLt (o (k - 1)) ⟨X0, X1, false, X3⟩ := fun _ => by rw [show k - 1 = j from HJK.out.symm, HY.out]; exact (ltB_iff _ _).1 hls
          show _ = _
          rw [Bool.eq_iff_iff, HBB.out, decide_eq_true_eq]
          constructor
          · intro h
            exact Classical.byContradiction fun q => h (hS.out.2 ⟨HF.out, ⟨h1, h2, h3, h4, h5⟩, h6, q⟩)
          · exact fun h q => (hS.out.1 q).2.2.2 h
         rw [hls] at K6; clear HBB B2 hO2 KNO HE HF HB HWB HS HH HCC B1 R1 HW1 hS hls HY HJK; have KI := fun w3 (hb : Below W2.drew.heap.size W2.drew w3) => hid (sInI8 av (sqL o k).length cv (sqL o k) X1 (by rw [HLv.out]; omega) w3 (Ints.below (w := W2.drew) (show Ints .i64 W2.drew av _ cv _ from hI2.out) hb))
         generalize decide (X1 ∈ sqL o k) = bi at KI E
         clear HLv hI2; refine wp_region_held_drew (S := (fun wx => (wx.cell? ⟨wr.heap.size, 0, none⟩ = some (.string X0) ∧ wx.cell? ⟨wr.heap.size, 1, none⟩ = some (.int .i64 X1) ∧ wx.cell? ⟨wr.heap.size, 2, none⟩ = some (.bool false) ∧ wx.cell? ⟨wr.heap.size, 3, none⟩ = some (.string X3)) ∧ wx.cell? ⟨w.heap.size, 0, none⟩ = some (.slice (some ⟨b, off, none⟩) n cap) ∧ wx.cell? ⟨b, off + j * 4, none⟩ = some (.string Y0) ∧ wx.cell? ⟨b, off + j * 4 + 1, none⟩ = some (.int .i64 Y1) ∧ wx.cell? ⟨b, off + j * 4 + 2, none⟩ = some (.bool Y2) ∧ wx.cell? ⟨b, off + j * 4 + 3, none⟩ = some (.string Y3))) (by kernel_rfl) ?_ (fun hHeld => ?_)
         · exact ⟨⟨HJ.out.cell 0, HJ.out.cell 1, HJ.out.cell 2, HJ.out.cell 3⟩, HR.out.cell 0, e0, e1, e2, e3⟩
         refine wpAnyH_take (i := 0) (oi := oSRun20) (v := ?v2x0) rfl (by kernel_rfl) (by kernel_rfl) (by kernel_rfl) (fun _ _ _ h => h) (Or.inl ⟨by rfl, ?hy2x0⟩) hHeld ?rest2x0
         case hy2x0 => (unfold oSRun20; intro w hSw; (try dsimp only at hSw); go_simp; try with_reducible rfl)
         simp only [oSRun20, Act.put, aS9, bS9, cS9]; refine wpAnyH_take (i := 1) (oi := oSRun21) (v := ?v2x1) rfl (by kernel_rfl) (by kernel_rfl) (by kernel_rfl) (fun _ _ _ h => h) (Or.inl ⟨by rfl, ?hy2x1⟩) hHeld ?rest2x1
         case hy2x1 => (unfold oSRun21; intro w hSw; (try dsimp only at hSw); go_simp; try with_reducible rfl)
         simp only [oSRun21, Act.put, aS9, bS9, cS9]; refine wpAnyH_take (i := 2) (oi := oSRun22) (v := ?v2x2) rfl (by kernel_rfl) (by kernel_rfl) (by kernel_rfl) (fun _ _ _ h => h) (Or.inl ⟨by rfl, ?hy2x2⟩) hHeld ?rest2x2
         case hy2x2 => (unfold oSRun22; intro w hSw; (try dsimp only at hSw); go_simp; try with_reducible rfl)
         simp only [oSRun22, Act.put, aS9, bS9, cS9]; refine wpAnyH_take (i := 3) (oi := oSRun23) (v := ?v2x3) rfl (by kernel_rfl) (by kernel_rfl) (by kernel_rfl) (fun _ _ _ h => h) (Or.inl ⟨by rfl, ?hy2x3⟩) hHeld ?rest2x3
         case hy2x3 => (unfold oSRun23; intro w hSw; (try dsimp only at hSw); go_simp; try with_reducible rfl)
         simp only [oSRun23, Act.put, aS9, bS9, cS9]; refine wpAnyH_take (i := 4) (oi := oSRun24) (v := ?v2x4) rfl (by kernel_rfl) (by kernel_rfl) (by kernel_rfl) (fun _ _ _ h => h) (Or.inl ⟨by rfl, ?hy2x4⟩) hHeld ?rest2x4
         case hy2x4 => (unfold oSRun24; intro w hSw; (try dsimp only at hSw); go_simp; try with_reducible rfl)
         simp only [oSRun24, Act.put, aS9, bS9, cS9]; refine wpAnyH_take (i := 5) (oi := oSRun25) (v := ?v2x5) rfl (by kernel_rfl) (by kernel_rfl) (by kernel_rfl) (fun _ _ _ h => h) (Or.inl ⟨by rfl, ?hy2x5⟩) hHeld ?rest2x5
         case hy2x5 => (unfold oSRun25; intro w hSw; (try dsimp only at hSw); go_simp; try with_reducible rfl)
         simp only [oSRun25, Act.put, aS9, bS9, cS9]; refine wpAnyH_take (i := 6) (oi := oSRun26) (v := ?v2x6) rfl (by kernel_rfl) (by kernel_rfl) (by kernel_rfl) (fun _ _ _ h => h) (Or.inl ⟨by rfl, ?hy2x6⟩) hHeld ?rest2x6
         case hy2x6 => (unfold oSRun26; intro w hSw; (try dsimp only at hSw); go_simp; try with_reducible rfl)
         simp only [oSRun26, Act.put, aS9, bS9, cS9]; refine wpAnyH_take (i := 7) (oi := oSRun27) (v := ?v2x7) rfl (by kernel_rfl) (by kernel_rfl) (by kernel_rfl) (fun _ _ _ h => h) (Or.inl ⟨by rfl, ?hy2x7⟩) hHeld ?rest2x7
         case hy2x7 => (unfold oSRun27; intro w hSw; (try dsimp only at hSw); go_simp; try with_reducible rfl)
         simp only [oSRun27, Act.put, aS9, bS9, cS9]; refine wpAnyH_take (i := 8) (oi := oSRun28) (v := ?v2x8) rfl (by kernel_rfl) (by kernel_rfl) (by kernel_rfl) (fun _ _ _ h => h) (Or.inl ⟨by rfl, ?hy2x8⟩) hHeld ?rest2x8
         case hy2x8 => (unfold oSRun28; intro w hSw; (try dsimp only at hSw); go_simp; try with_reducible rfl)
         simp only [oSRun28, Act.put, aS9, bS9, cS9]; refine wpAnyH_take (i := 9) (oi := oSRun29) (v := ?v2x9) rfl (by kernel_rfl) (by kernel_rfl) (by kernel_rfl) (fun _ _ _ h => h) (Or.inl ⟨by rfl, ?hy2x9⟩) hHeld ?rest2x9
         case hy2x9 => (unfold oSRun29; intro w hSw; (try dsimp only at hSw); go_simp; try with_reducible rfl)
         simp only [oSRun29, Act.put, aS9, bS9, cS9]; refine wpAnyH_take (i := 10) (oi := oSRun210) (v := ?v2x10) rfl (by kernel_rfl) (by kernel_rfl) (by kernel_rfl) (fun _ _ _ h => h) (Or.inl ⟨by rfl, ?hy2x10⟩) hHeld ?rest2x10
         case hy2x10 => (unfold oSRun210; intro w hSw; (try dsimp only at hSw); go_simp; try with_reducible rfl)
         simp only [oSRun210, Act.put, aS9, bS9, cS9]; refine wpAnyH_take (i := 11) (oi := oSRun211) (v := ?v2x11) rfl (by kernel_rfl) (by kernel_rfl) (by kernel_rfl) (fun _ _ _ h => h) (Or.inl ⟨by rfl, ?hy2x11⟩) hHeld ?rest2x11
         case hy2x11 => (unfold oSRun211; intro w hSw; (try dsimp only at hSw); go_simp; try with_reducible rfl)
         simp only [oSRun211, Act.put, aS9, bS9, cS9]; refine wpAnyH_take (i := 12) (oi := oSRun212) (v := ?v2x12) rfl (by kernel_rfl) (by kernel_rfl) (by kernel_rfl) (fun _ _ _ h => h) (Or.inl ⟨by rfl, ?hy2x12⟩) hHeld ?rest2x12
         case hy2x12 => (unfold oSRun212; intro w hSw; (try dsimp only at hSw); go_simp; try with_reducible rfl)
         simp only [oSRun212, Act.put, aS9, bS9, cS9]; refine wpAnyH_take (i := 13) (oi := oSRun213) (v := ?v2x13) rfl (by kernel_rfl) (by kernel_rfl) (by kernel_rfl) (fun _ _ _ h => h) (Or.inl ⟨by rfl, ?hy2x13⟩) hHeld ?rest2x13
         case hy2x13 => (unfold oSRun213; intro w hSw; (try dsimp only at hSw); go_simp; try with_reducible rfl)
         simp only [oSRun213, Act.put, aS9, bS9, cS9]; refine wpAnyH_take (i := 14) (oi := oSRun214) (v := ?v2x14) rfl (by kernel_rfl) (by kernel_rfl) (by kernel_rfl) (fun _ _ _ h => h) (Or.inl ⟨by rfl, ?hy2x14⟩) hHeld ?rest2x14
         case hy2x14 => (unfold oSRun214; intro w hSw; (try dsimp only at hSw); go_simp; try with_reducible rfl)
         simp only [oSRun214, Act.put, aS9, bS9, cS9]; refine wpAnyH_take (i := 15) (oi := oSRun215) (v := ?v2x15) rfl (by kernel_rfl) (by kernel_rfl) (by kernel_rfl) (fun _ _ _ h => h) (Or.inl ⟨by rfl, ?hy2x15⟩) hHeld ?rest2x15
         case hy2x15 => (unfold oSRun215; intro w hSw; (try dsimp only at hSw); go_simp; try with_reducible rfl)
         simp only [oSRun215, Act.put, aS9, bS9, cS9]; refine wpAnyH_take (i := 16) (oi := oSRun216) (v := ?v2x16) rfl (by kernel_rfl) (by kernel_rfl) (by kernel_rfl) (fun _ _ _ h => h) (Or.inl ⟨by rfl, ?hy2x16⟩) hHeld ?rest2x16
         case hy2x16 => (unfold oSRun216; intro w hSw; (try dsimp only at hSw); go_simp; try with_reducible rfl)
         simp only [oSRun216, Act.put, aS9, bS9, cS9]; refine wpAnyH_take (i := 17) (oi := oSRun217) (v := ?v2x17) rfl (by kernel_rfl) (by kernel_rfl) (by kernel_rfl) (fun _ _ _ h => h) (Or.inl ⟨by rfl, ?hy2x17⟩) hHeld ?rest2x17
         case hy2x17 => (unfold oSRun217; intro w hSw; (try dsimp only at hSw); go_simp; try with_reducible rfl)
         simp only [oSRun217, Act.put, aS9, bS9, cS9]; refine wpAnyH_take (i := 18) (oi := oSRun218) (v := ?v2x18) rfl (by kernel_rfl) (by kernel_rfl) (by kernel_rfl) (fun _ _ _ h => h) (Or.inl ⟨by rfl, ?hy2x18⟩) hHeld ?rest2x18
         case hy2x18 => (unfold oSRun218; intro w hSw; (try dsimp only at hSw); go_simp; try with_reducible rfl)
         simp only [oSRun218, Act.put, aS9, bS9, cS9]; refine wpAnyH_take (i := 19) (oi := oSRun219) (v := undef) rfl (by kernel_rfl) (by kernel_rfl) (by kernel_rfl) (fun _ _ _ h => h) (Or.inr ⟨by rfl, rfl⟩) hHeld ?_; simp only [oSRun219, Act.put, aS9, bS9, cS9]; refine wpAnyH_take (i := 20) (oi := oSRun220) (v := undef) rfl (by kernel_rfl) (by kernel_rfl) (by kernel_rfl) (fun _ _ _ h => h) (Or.inr ⟨by rfl, rfl⟩) hHeld ?_; simp only [oSRun220, Act.put, aS9, bS9, cS9]; refine wpAnyH_take (i := 21) (oi := oSRun221) (v := undef) rfl (by kernel_rfl) (by kernel_rfl) (by kernel_rfl) (fun _ _ _ h => h) (Or.inr ⟨by rfl, rfl⟩) hHeld ?_; simp only [oSRun221, Act.put, aS9, bS9, cS9]; refine wpAnyH_take (i := 22) (oi := oSRun222) (v := ?v2x22) rfl (by kernel_rfl) (by kernel_rfl) (by kernel_rfl) (fun _ _ _ h => h) (Or.inl ⟨by rfl, ?hy2x22⟩) hHeld ?rest2x22
         case hy2x22 => (unfold oSRun222; intro w hSw; (try dsimp only at hSw); go_simp; try with_reducible rfl)
         simp only [oSRun222, Act.put, aS9, bS9, cS9]; refine wpAnyH_take (i := 23) (oi := oSRun223) (v := ?v2x23) rfl (by kernel_rfl) (by kernel_rfl) (by kernel_rfl) (fun _ _ _ h => h) (Or.inl ⟨by rfl, ?hy2x23⟩) hHeld ?rest2x23
         case hy2x23 => (unfold oSRun223; intro w hSw; (try dsimp only at hSw); go_simp; try with_reducible rfl)
         simp only [oSRun223, Act.put, aS9, bS9, cS9]; refine wpAnyH_take (i := 24) (oi := oSRun224) (v := ?v2x24) rfl (by kernel_rfl) (by kernel_rfl) (by kernel_rfl) (fun _ _ _ h => h) (Or.inl ⟨by rfl, ?hy2x24⟩) hHeld ?rest2x24
         case hy2x24 => (unfold oSRun224; intro w hSw; (try dsimp only at hSw); go_simp; try with_reducible rfl)
         simp only [oSRun224, Act.put, aS9, bS9, cS9]; refine wpAnyH_take (i := 25) (oi := oSRun225) (v := ?v2x25) rfl (by kernel_rfl) (by kernel_rfl) (by kernel_rfl) (fun _ _ _ h => h) (Or.inl ⟨by rfl, ?hy2x25⟩) hHeld ?rest2x25
         case hy2x25 => (unfold oSRun225; intro w hSw; (try dsimp only at hSw); go_simp; try with_reducible rfl)
         simp only [oSRun225, Act.put, aS9, bS9, cS9]; refine wpAnyH_take (i := 26) (oi := oSRun226) (v := ?v2x26) rfl (by kernel_rfl) (by kernel_rfl) (by kernel_rfl) (fun _ _ _ h => h) (Or.inl ⟨by rfl, ?hy2x26⟩) hHeld ?rest2x26
         case hy2x26 => (unfold oSRun226; intro w hSw; (try dsimp only at hSw); go_simp; try with_reducible rfl)
         simp only [oSRun226, Act.put, aS9, bS9, cS9]; refine wpAnyH_take (i := 27) (oi := oSRun227) (v := ?v2x27) rfl (by kernel_rfl) (by kernel_rfl) (by kernel_rfl) (fun _ _ _ h => h) (Or.inl ⟨by rfl, ?hy2x27⟩) hHeld ?rest2x27
         case hy2x27 => (unfold oSRun227; intro w hSw; (try dsimp only at hSw); go_simp; try with_reducible rfl)
         simp only [oSRun227, Act.put, aS9, bS9, cS9]; refine wpAnyH_take (i := 28) (oi := oSRun228) (v := ?v2x28) rfl (by kernel_rfl) (by kernel_rfl) (by kernel_rfl) (fun _ _ _ h => h) (Or.inl ⟨by rfl, ?hy2x28⟩) hHeld ?rest2x28
         case hy2x28 => (unfold oSRun228; intro w hSw; (try dsimp only at hSw); go_simp; try with_reducible rfl)
         simp only [oSRun228, Act.put, aS9, bS9, cS9]; refine wpAnyH_take (i := 29) (oi := oSRun229) (v := ?v2x29) rfl (by kernel_rfl) (by kernel_rfl) (by kernel_rfl) (fun _ _ _ h => h) (Or.inl ⟨by rfl, ?hy2x29⟩) hHeld ?rest2x29
         case hy2x29 => (unfold oSRun229; intro w hSw; (try dsimp only at hSw); go_simp; try with_reducible rfl)
         simp only [oSRun229, Act.put, aS9, bS9, cS9]; refine wpAnyH_take (i := 30) (oi := oSRun230) (v := ?v2x30) rfl (by kernel_rfl) (by kernel_rfl) (by kernel_rfl) (fun _ _ _ h => h) (Or.inl ⟨by rfl, ?hy2x30⟩) hHeld ?rest2x30
         case hy2x30 => (unfold oSRun230; intro w hSw; (try dsimp only at hSw); go_simp; try with_reducible rfl)
         simp only [oSRun230, Act.put, aS9, bS9, cS9]; refine wpAnyH_take (i := 31) (oi := oSRun231) (v := ?v2x31) rfl (by kernel_rfl) (by kernel_rfl) (by kernel_rfl) (fun _ _ _ h => h) (Or.inl ⟨by rfl, ?hy2x31⟩) hHeld ?rest2x31
         case hy2x31 => (unfold oSRun231; intro w hSw; (try dsimp only at hSw); go_simp; try with_reducible rfl)
         simp only [oSRun231, Act.put, aS9, bS9, cS9]; refine wpAnyH_take (i := 32) (oi := oSRun232) (v := ?v2x32) rfl (by kernel_rfl) (by kernel_rfl) (by kernel_rfl) (fun _ _ _ h => h) (Or.inl ⟨by rfl, ?hy2x32⟩) hHeld ?rest2x32
         case hy2x32 => (unfold oSRun232; intro w hSw; (try dsimp only at hSw); go_simp; try with_reducible rfl)
         simp only [oSRun232, Act.put, aS9, bS9, cS9]; refine wpAnyH_take (i := 33) (oi := oSRun233) (v := ?v2x33) rfl (by kernel_rfl) (by kernel_rfl) (by kernel_rfl) (fun _ _ _ h => h) (Or.inl ⟨by rfl, ?hy2x33⟩) hHeld ?rest2x33
         case hy2x33 => (unfold oSRun233; intro w hSw; (try dsimp only at hSw); go_simp; try with_reducible rfl)
         simp only [oSRun233, Act.put, aS9, bS9, cS9]; refine wpAnyH_take (i := 34) (oi := oSRun234) (v := ?v2x34) rfl (by kernel_rfl) (by kernel_rfl) (by kernel_rfl) (fun _ _ _ h => h) (Or.inl ⟨by rfl, ?hy2x34⟩) hHeld ?rest2x34
         case hy2x34 => (unfold oSRun234; intro w hSw; (try dsimp only at hSw); go_simp; try with_reducible rfl)
         simp only [oSRun234, Act.put, aS9, bS9, cS9]; refine wpAnyH_take (i := 35) (oi := oSRun235) (v := ?v2x35) rfl (by kernel_rfl) (by kernel_rfl) (by kernel_rfl) (fun _ _ _ h => h) (Or.inl ⟨by rfl, ?hy2x35⟩) hHeld ?rest2x35
         case hy2x35 => (unfold oSRun235; intro w hSw; (try dsimp only at hSw); go_simp; try with_reducible rfl)
         simp only [oSRun235, Act.put, aS9, bS9, cS9]; refine wpAnyH_take (i := 36) (oi := oSRun236) (v := ?v2x36) rfl (by kernel_rfl) (by kernel_rfl) (by kernel_rfl) (fun _ _ _ h => h) (Or.inl ⟨by rfl, ?hy2x36⟩) hHeld ?rest2x36
         case hy2x36 => (unfold oSRun236; intro w hSw; (try dsimp only at hSw); go_simp; try with_reducible rfl)
         simp only [oSRun236, Act.put, aS9, bS9, cS9]; refine wpAnyH_take (i := 37) (oi := oSRun237) (v := ?v2x37) rfl (by kernel_rfl) (by kernel_rfl) (by kernel_rfl) (fun _ _ _ h => h) (Or.inl ⟨by rfl, ?hy2x37⟩) hHeld ?rest2x37
         case hy2x37 => (unfold oSRun237; intro w hSw; (try dsimp only at hSw); go_simp; try with_reducible rfl)
         simp only [oSRun237, Act.put, aS9, bS9, cS9]; refine wpAnyH_take (i := 38) (oi := oSRun238) (v := ?v2x38) rfl (by kernel_rfl) (by kernel_rfl) (by kernel_rfl) (fun _ _ _ h => h) (Or.inl ⟨by rfl, ?hy2x38⟩) hHeld ?rest2x38
         case hy2x38 => (unfold oSRun238; intro w hSw; (try dsimp only at hSw); go_simp; try with_reducible rfl)
         simp only [oSRun238, Act.put, aS9, bS9, cS9]; refine wpAnyH_take (i := 39) (oi := oSRun239) (v := ?v2x39) rfl (by kernel_rfl) (by kernel_rfl) (by kernel_rfl) (fun _ _ _ h => h) (Or.inl ⟨by rfl, ?hy2x39⟩) hHeld ?rest2x39
         case hy2x39 => (unfold oSRun239; intro w hSw; (try dsimp only at hSw); go_simp; try with_reducible rfl)
         simp only [oSRun239, Act.put, aS9, bS9, cS9]; refine wpAnyH_take (i := 40) (oi := oSRun240) (v := ?v2x40) rfl (by kernel_rfl) (by kernel_rfl) (by kernel_rfl) (fun _ _ _ h => h) (Or.inl ⟨by rfl, ?hy2x40⟩) hHeld ?rest2x40
         case hy2x40 => (unfold oSRun240; intro w hSw; (try dsimp only at hSw); go_simp; try with_reducible rfl)
         simp only [oSRun240, Act.put, aS9, bS9, cS9]; refine wpAnyH_ready (rs := [41]) (by kernel_rfl) (by simp) ?_
         refine AllReadyH.cons (o := { dst := some 64, op := Op.call { callee := Callee.value (Operand.func 41), args := #[Operand.tmp 62, Operand.tmp 63], argTypes := #[46, 46] }, type := 4, pos := "l08_runs.go:16", after := #[{ on := 39, ground := Ground.data }, { on := 40, ground := Ground.data }, { on := 33, ground := Ground.chain }, { on := 33, ground := Ground.guard }], guard := some (33, true) }) rfl (fun K hK => ?_) AllReadyH.nil
         go_simp
         refine (K6 _).out.mono ?_
         rintro e w3 ⟨rfl, hb⟩
         have HJ3 := hid (RA.nx hb HJ.out.drew); have HR3 := hid (RA.nx hb HR.out.drew)
         go_wp2_with fail
         refine hK.out _ _ ?_ (fun hHeld => ?_)
         · exact ⟨⟨HJ3.out.cell 0, HJ3.out.cell 1, HJ3.out.cell 2, HJ3.out.cell 3⟩, HR3.out.cell 0, (hb.cell hlb).trans e0, (hb.cell hlb).trans e1, (hb.cell hlb).trans e2, (hb.cell hlb).trans e3⟩
         clear hK K
         try simp only [Act.put, aS9, bS9, cS9]
         refine wpAnyH_take (i := 42) (oi := oSRun241) (v := ?v2x42) rfl (by kernel_rfl) (by kernel_rfl) (by kernel_rfl) (fun _ _ _ h => h) (Or.inl ⟨by rfl, ?hy2x42⟩) hHeld ?rest2x42
         case hy2x42 => (unfold oSRun241; intro w hSw; (try dsimp only at hSw); go_simp; try with_reducible rfl)
         simp only [oSRun241, Act.put, aS9, bS9, cS9]; refine wpAnyH_take (i := 43) (oi := oSRun242) (v := ?v2x43) rfl (by kernel_rfl) (by kernel_rfl) (by kernel_rfl) (fun _ _ _ h => h) (Or.inl ⟨by rfl, ?hy2x43⟩) hHeld ?rest2x43
         case hy2x43 => (unfold oSRun242; intro w hSw; (try dsimp only at hSw); go_simp; try with_reducible rfl)
         simp only [oSRun242, Act.put, aS9, bS9, cS9]; refine wpAnyH_take (i := 44) (oi := oSRun243) (v := ?v2x44) rfl (by kernel_rfl) (by kernel_rfl) (by kernel_rfl) (fun _ _ _ h => h) (Or.inl ⟨by rfl, ?hy2x44⟩) hHeld ?rest2x44
         case hy2x44 => (unfold oSRun243; intro w hSw; (try dsimp only at hSw); go_simp; try with_reducible rfl)
         simp only [oSRun243, Act.put, aS9, bS9, cS9]; refine wpAnyH_take (i := 45) (oi := oSRun244) (v := ?v2x45) rfl (by kernel_rfl) (by kernel_rfl) (by kernel_rfl) (fun _ _ _ h => h) (Or.inl ⟨by rfl, ?hy2x45⟩) hHeld ?rest2x45
         case hy2x45 => (unfold oSRun244; intro w hSw; (try dsimp only at hSw); go_simp; try with_reducible rfl)
         simp only [oSRun244, Act.put, aS9, bS9, cS9]; refine wpAnyH_take (i := 46) (oi := oSRun245) (v := ?v2x46) rfl (by kernel_rfl) (by kernel_rfl) (by kernel_rfl) (fun _ _ _ h => h) (Or.inl ⟨by rfl, ?hy2x46⟩) hHeld ?rest2x46
         case hy2x46 => (unfold oSRun245; intro w hSw; (try dsimp only at hSw); go_simp; try with_reducible rfl)
         simp only [oSRun245, Act.put, aS9, bS9, cS9]; refine wpAnyH_take (i := 47) (oi := oSRun246) (v := ?v2x47) rfl (by kernel_rfl) (by kernel_rfl) (by kernel_rfl) (fun _ _ _ h => h) (Or.inl ⟨by rfl, ?hy2x47⟩) hHeld ?rest2x47
         case hy2x47 => (unfold oSRun246; intro w hSw; (try dsimp only at hSw); go_simp; try with_reducible rfl)
         simp only [oSRun246, Act.put, aS9, bS9, cS9]; refine wpAnyH_take (i := 48) (oi := oSRun247) (v := ?v2x48) rfl (by kernel_rfl) (by kernel_rfl) (by kernel_rfl) (fun _ _ _ h => h) (Or.inl ⟨by rfl, ?hy2x48⟩) hHeld ?rest2x48
         case hy2x48 => (unfold oSRun247; intro w hSw; (try dsimp only at hSw); go_simp; try with_reducible rfl)
         simp only [oSRun247, Act.put, aS9, bS9, cS9]; refine wpAnyH_ready (rs := [49]) (by kernel_rfl) (by simp) ?_
         refine AllReadyH.cons (o := { dst := some 72, op := Op.call { callee := Callee.value (Operand.func 23), args := #[Operand.tmp 69, Operand.tmp 71], argTypes := #[59, 2] }, type := 4, pos := "l08_runs.go:16", after := #[{ on := 46, ground := Ground.data }, { on := 48, ground := Ground.data }, { on := 45, ground := Ground.chain }, { on := 45, ground := Ground.guard }], guard := some (45, false) }) rfl (fun K hK => ?_) AllReadyH.nil
         go_simp
         refine (KI _ hb).out.mono ?_
         rintro e w4 ⟨rfl, rfl⟩
         go_wp2_with fail
         refine hK.out _ _ ?_ (fun hHeld => ?_)
         · exact hHeld
         clear hK K
         try simp only [Act.put, aS9, bS9, cS9]
         refine wpAnyH_take (i := 50) (oi := oSRun249) (v := ?v2x50) rfl (by kernel_rfl) (by kernel_rfl) (by kernel_rfl) (fun _ _ _ h => h) (Or.inl ⟨by rfl, ?hy2x50⟩) hHeld ?rest2x50
         case hy2x50 => (unfold oSRun249; intro w hSw; (try dsimp only at hSw); go_simp; try with_reducible rfl)
         simp only [oSRun249, Act.put, aS9, bS9, cS9]; refine wpAnyH_done (by kernel_rfl) ?_ _
         go_wp2
         go_meet
         exact ⟨by rw [E.out], (below_dN (Below.refl _ W2) 1).trans hb⟩
       | true =>
        by_cases hx : X3 = ⟨#[]⟩
        · subst hx
          have h4 : ¬ (true = true ∧ (⟨#[]⟩ : ByteArray) ≠ ⟨#[]⟩) := fun h => h.2 rfl; have h5 : (⟨#[]⟩ : ByteArray).size ≤ 100000 := by decide
          have d5 : decide ((100000 : Int) < ((⟨#[]⟩ : ByteArray).size : Int)) = false := by decide
          rcases Nat.eq_zero_or_pos k with hk0 | hk0
          · subst hk0
            cases hin : decide (X1 ∈ sqL o 0) with
            | true => simp [sqL] at hin
            | false =>
             have E : Hid (BB = false) := by
              have hgo : runTo (0 + 1) o := hS.out.2 ⟨HF.out, ⟨h1, h2, h3, h4, h5⟩, (fun h => absurd h (by omega)), by simpa using hin⟩
              cases hb : BB with
              | false => rfl
              | true => exact absurd hgo (HBB.out.1 hb)
             have hz : (sqL o 0).length = 0 := rfl; rw [hz] at hI2 ⊢; have KI := fun x => hid (sInI8 av 0 cv (sqL o 0) X1 (by omega) (W2.drewN x) (ints_dN hI2.out x)); rw [hin] at KI; clear HBB HJ HR B2 G2 hO2 hI2 KNO HE HF HB HWB HS HH HLv HCC B1 R1 HW1 hS hin hz
             go_quiet ((first | (go_at_call 23; refine (KI _).out.mono ?_; rintro e w4 ⟨rfl, rfl⟩; exact ⟨rfl, _, rfl⟩)))
             go_wp2
             go_meet
             exact ⟨by rw [E.out], below_dN (Below.refl _ _) _⟩
          obtain ⟨j, hj⟩ : ∃ j, j = k - 1 := ⟨_, rfl⟩; obtain ⟨e0, e1, e2, e3⟩ := HCC.out j (by omega); have HY : Hid (o j = (⟨(o j).ky, (o j).sq, (o j).gn, (o j).tx⟩ : En)) := rfl; obtain ⟨Y0, hY0⟩ : ∃ v, v = (o j).ky := ⟨_, rfl⟩; obtain ⟨Y1, hY1⟩ : ∃ v, v = (o j).sq := ⟨_, rfl⟩; obtain ⟨Y2, hY2⟩ : ∃ v, v = (o j).gn := ⟨_, rfl⟩; obtain ⟨Y3, hY3⟩ : ∃ v, v = (o j).tx := ⟨_, rfl⟩; rw [← hY0, ← hY1, ← hY2, ← hY3] at HY; rw [← hY0] at e0; rw [← hY1] at e1; rw [← hY2] at e2; rw [← hY3] at e3; replace e0 := (G2.out.cell hbl).trans e0; replace e1 := (G2.out.cell hbl).trans e1; replace e2 := (G2.out.cell hbl).trans e2; replace e3 := (G2.out.cell hbl).trans e3; have HJK := hid hj; have m2 : (k : Int) - 1 = (j : Int) := by omega
          have m3 : (0 : Int) ≤ (j : Int) := by omega
          have m4 : (j : Int) < (n : Int) := by omega
          have m5 : IntKind.i64.wrap ((k : Int) - 1) = (j : Int) := by rw [m2]; simp [IntKind.wrap, IntKind.bits, IntKind.signed]; omega
          have m6 : decide ((0 : Int) < (k : Int)) = true := by simp; omega
          have K6 := fun w => hid (sLess Y0 Y1 Y2 Y3 X0 X1 true ⟨#[]⟩ w); clear hY0 hY1 hY2 hY3 hj m2; have hlb : b < W2.drew.heap.size := Nat.lt_of_lt_of_le hbl G2.out.size
          cases hls : ltB ⟨Y0, Y1, Y2, Y3⟩ ⟨X0, X1, true, ⟨#[]⟩⟩ with
          | false =>
           have E : Hid (BB = true) := HBB.out.2 fun h => by
            have := (hS.out.1 h).2.2.1 hk0; rw [show k - 1 = j from HJK.out.symm, HY.out] at this; rw [ltB_t this] at hls; cases hls
           rw [hls] at K6; clear HBB B2 hO2 KNO HE HF HB HWB HS HH HCC B1 R1 HW1 hS hls HY HJK; clear HLv hI2; refine wp_region_held_drew (S := (fun wx => (wx.cell? ⟨wr.heap.size, 0, none⟩ = some (.string X0) ∧ wx.cell? ⟨wr.heap.size, 1, none⟩ = some (.int .i64 X1) ∧ wx.cell? ⟨wr.heap.size, 2, none⟩ = some (.bool true) ∧ wx.cell? ⟨wr.heap.size, 3, none⟩ = some (.string ⟨#[]⟩)) ∧ wx.cell? ⟨w.heap.size, 0, none⟩ = some (.slice (some ⟨b, off, none⟩) n cap) ∧ wx.cell? ⟨b, off + j * 4, none⟩ = some (.string Y0) ∧ wx.cell? ⟨b, off + j * 4 + 1, none⟩ = some (.int .i64 Y1) ∧ wx.cell? ⟨b, off + j * 4 + 2, none⟩ = some (.bool Y2) ∧ wx.cell? ⟨b, off + j * 4 + 3, none⟩ = some (.string Y3))) (by kernel_rfl) ?_ (fun hHeld => ?_)
           · exact ⟨⟨HJ.out.cell 0, HJ.out.cell 1, HJ.out.cell 2, HJ.out.cell 3⟩, HR.out.cell 0, e0, e1, e2, e3⟩
           refine wpAnyH_take (i := 0) (oi := oSRun20) (v := ?v3x0) rfl (by kernel_rfl) (by kernel_rfl) (by kernel_rfl) (fun _ _ _ h => h) (Or.inl ⟨by rfl, ?hy3x0⟩) hHeld ?rest3x0
           case hy3x0 => (unfold oSRun20; intro w hSw; (try dsimp only at hSw); go_simp; try with_reducible rfl)
           simp only [oSRun20, Act.put, aS9, bS9, cS9]; refine wpAnyH_take (i := 1) (oi := oSRun21) (v := ?v3x1) rfl (by kernel_rfl) (by kernel_rfl) (by kernel_rfl) (fun _ _ _ h => h) (Or.inl ⟨by rfl, ?hy3x1⟩) hHeld ?rest3x1
           case hy3x1 => (unfold oSRun21; intro w hSw; (try dsimp only at hSw); go_simp; try with_reducible rfl)
           simp only [oSRun21, Act.put, aS9, bS9, cS9]; refine wpAnyH_take (i := 2) (oi := oSRun22) (v := ?v3x2) rfl (by kernel_rfl) (by kernel_rfl) (by kernel_rfl) (fun _ _ _ h => h) (Or.inl ⟨by rfl, ?hy3x2⟩) hHeld ?rest3x2
           case hy3x2 => (unfold oSRun22; intro w hSw; (try dsimp only at hSw); go_simp; try with_reducible rfl)
           simp only [oSRun22, Act.put, aS9, bS9, cS9]; refine wpAnyH_take (i := 3) (oi := oSRun23) (v := ?v3x3) rfl (by kernel_rfl) (by kernel_rfl) (by kernel_rfl) (fun _ _ _ h => h) (Or.inl ⟨by rfl, ?hy3x3⟩) hHeld ?rest3x3
           case hy3x3 => (unfold oSRun23; intro w hSw; (try dsimp only at hSw); go_simp; try with_reducible rfl)
           simp only [oSRun23, Act.put, aS9, bS9, cS9]; refine wpAnyH_take (i := 4) (oi := oSRun24) (v := ?v3x4) rfl (by kernel_rfl) (by kernel_rfl) (by kernel_rfl) (fun _ _ _ h => h) (Or.inl ⟨by rfl, ?hy3x4⟩) hHeld ?rest3x4
           case hy3x4 => (unfold oSRun24; intro w hSw; (try dsimp only at hSw); go_simp; try with_reducible rfl)
           simp only [oSRun24, Act.put, aS9, bS9, cS9]; refine wpAnyH_take (i := 5) (oi := oSRun25) (v := ?v3x5) rfl (by kernel_rfl) (by kernel_rfl) (by kernel_rfl) (fun _ _ _ h => h) (Or.inl ⟨by rfl, ?hy3x5⟩) hHeld ?rest3x5
           case hy3x5 => (unfold oSRun25; intro w hSw; (try dsimp only at hSw); go_simp; try with_reducible rfl)
           simp only [oSRun25, Act.put, aS9, bS9, cS9]; refine wpAnyH_take (i := 6) (oi := oSRun26) (v := ?v3x6) rfl (by kernel_rfl) (by kernel_rfl) (by kernel_rfl) (fun _ _ _ h => h) (Or.inl ⟨by rfl, ?hy3x6⟩) hHeld ?rest3x6
           case hy3x6 => (unfold oSRun26; intro w hSw; (try dsimp only at hSw); go_simp; try with_reducible rfl)
           simp only [oSRun26, Act.put, aS9, bS9, cS9]; refine wpAnyH_take (i := 7) (oi := oSRun27) (v := ?v3x7) rfl (by kernel_rfl) (by kernel_rfl) (by kernel_rfl) (fun _ _ _ h => h) (Or.inl ⟨by rfl, ?hy3x7⟩) hHeld ?rest3x7
           case hy3x7 => (unfold oSRun27; intro w hSw; (try dsimp only at hSw); go_simp; try with_reducible rfl)
           simp only [oSRun27, Act.put, aS9, bS9, cS9]; refine wpAnyH_take (i := 8) (oi := oSRun28) (v := ?v3x8) rfl (by kernel_rfl) (by kernel_rfl) (by kernel_rfl) (fun _ _ _ h => h) (Or.inl ⟨by rfl, ?hy3x8⟩) hHeld ?rest3x8
           case hy3x8 => (unfold oSRun28; intro w hSw; (try dsimp only at hSw); go_simp; try with_reducible rfl)
           simp only [oSRun28, Act.put, aS9, bS9, cS9]; refine wpAnyH_take (i := 9) (oi := oSRun29) (v := ?v3x9) rfl (by kernel_rfl) (by kernel_rfl) (by kernel_rfl) (fun _ _ _ h => h) (Or.inl ⟨by rfl, ?hy3x9⟩) hHeld ?rest3x9
           case hy3x9 => (unfold oSRun29; intro w hSw; (try dsimp only at hSw); go_simp; try with_reducible rfl)
           simp only [oSRun29, Act.put, aS9, bS9, cS9]; refine wpAnyH_take (i := 10) (oi := oSRun210) (v := ?v3x10) rfl (by kernel_rfl) (by kernel_rfl) (by kernel_rfl) (fun _ _ _ h => h) (Or.inl ⟨by rfl, ?hy3x10⟩) hHeld ?rest3x10
           case hy3x10 => (unfold oSRun210; intro w hSw; (try dsimp only at hSw); go_simp; try with_reducible rfl)
           simp only [oSRun210, Act.put, aS9, bS9, cS9]; refine wpAnyH_take (i := 11) (oi := oSRun211) (v := ?v3x11) rfl (by kernel_rfl) (by kernel_rfl) (by kernel_rfl) (fun _ _ _ h => h) (Or.inl ⟨by rfl, ?hy3x11⟩) hHeld ?rest3x11
           case hy3x11 => (unfold oSRun211; intro w hSw; (try dsimp only at hSw); go_simp; try with_reducible rfl)
           simp only [oSRun211, Act.put, aS9, bS9, cS9]; refine wpAnyH_take (i := 12) (oi := oSRun212) (v := ?v3x12) rfl (by kernel_rfl) (by kernel_rfl) (by kernel_rfl) (fun _ _ _ h => h) (Or.inl ⟨by rfl, ?hy3x12⟩) hHeld ?rest3x12
           case hy3x12 => (unfold oSRun212; intro w hSw; (try dsimp only at hSw); go_simp; try with_reducible rfl)
           simp only [oSRun212, Act.put, aS9, bS9, cS9]; refine wpAnyH_take (i := 13) (oi := oSRun213) (v := ?v3x13) rfl (by kernel_rfl) (by kernel_rfl) (by kernel_rfl) (fun _ _ _ h => h) (Or.inl ⟨by rfl, ?hy3x13⟩) hHeld ?rest3x13
           case hy3x13 => (unfold oSRun213; intro w hSw; (try dsimp only at hSw); go_simp; try with_reducible rfl)
           simp only [oSRun213, Act.put, aS9, bS9, cS9]; refine wpAnyH_take (i := 14) (oi := oSRun214) (v := ?v3x14) rfl (by kernel_rfl) (by kernel_rfl) (by kernel_rfl) (fun _ _ _ h => h) (Or.inl ⟨by rfl, ?hy3x14⟩) hHeld ?rest3x14
           case hy3x14 => (unfold oSRun214; intro w hSw; (try dsimp only at hSw); go_simp; try with_reducible rfl)
           simp only [oSRun214, Act.put, aS9, bS9, cS9]; refine wpAnyH_take (i := 15) (oi := oSRun215) (v := ?v3x15) rfl (by kernel_rfl) (by kernel_rfl) (by kernel_rfl) (fun _ _ _ h => h) (Or.inl ⟨by rfl, ?hy3x15⟩) hHeld ?rest3x15
           case hy3x15 => (unfold oSRun215; intro w hSw; (try dsimp only at hSw); go_simp; try with_reducible rfl)
           simp only [oSRun215, Act.put, aS9, bS9, cS9]; refine wpAnyH_take (i := 16) (oi := oSRun216) (v := ?v3x16) rfl (by kernel_rfl) (by kernel_rfl) (by kernel_rfl) (fun _ _ _ h => h) (Or.inl ⟨by rfl, ?hy3x16⟩) hHeld ?rest3x16
           case hy3x16 => (unfold oSRun216; intro w hSw; (try dsimp only at hSw); go_simp; try with_reducible rfl)
           simp only [oSRun216, Act.put, aS9, bS9, cS9]; refine wpAnyH_take (i := 17) (oi := oSRun217) (v := ?v3x17) rfl (by kernel_rfl) (by kernel_rfl) (by kernel_rfl) (fun _ _ _ h => h) (Or.inl ⟨by rfl, ?hy3x17⟩) hHeld ?rest3x17
           case hy3x17 => (unfold oSRun217; intro w hSw; (try dsimp only at hSw); go_simp; try with_reducible rfl)
           simp only [oSRun217, Act.put, aS9, bS9, cS9]; refine wpAnyH_take (i := 18) (oi := oSRun218) (v := ?v3x18) rfl (by kernel_rfl) (by kernel_rfl) (by kernel_rfl) (fun _ _ _ h => h) (Or.inl ⟨by rfl, ?hy3x18⟩) hHeld ?rest3x18
           case hy3x18 => (unfold oSRun218; intro w hSw; (try dsimp only at hSw); go_simp; try with_reducible rfl)
           simp only [oSRun218, Act.put, aS9, bS9, cS9]; refine wpAnyH_take (i := 19) (oi := oSRun219) (v := ?v3x19) rfl (by kernel_rfl) (by kernel_rfl) (by kernel_rfl) (fun _ _ _ h => h) (Or.inl ⟨by rfl, ?hy3x19⟩) hHeld ?rest3x19
           case hy3x19 => (unfold oSRun219; intro w hSw; (try dsimp only at hSw); go_simp; try with_reducible rfl)
           simp only [oSRun219, Act.put, aS9, bS9, cS9]; refine wpAnyH_take (i := 20) (oi := oSRun220) (v := ?v3x20) rfl (by kernel_rfl) (by kernel_rfl) (by kernel_rfl) (fun _ _ _ h => h) (Or.inl ⟨by rfl, ?hy3x20⟩) hHeld ?rest3x20
           case hy3x20 => (unfold oSRun220; intro w hSw; (try dsimp only at hSw); go_simp; try with_reducible rfl)
           simp only [oSRun220, Act.put, aS9, bS9, cS9]; refine wpAnyH_take (i := 21) (oi := oSRun221) (v := ?v3x21) rfl (by kernel_rfl) (by kernel_rfl) (by kernel_rfl) (fun _ _ _ h => h) (Or.inl ⟨by rfl, ?hy3x21⟩) hHeld ?rest3x21
           case hy3x21 => (unfold oSRun221; intro w hSw; (try dsimp only at hSw); go_simp; try with_reducible rfl)
           simp only [oSRun221, Act.put, aS9, bS9, cS9]; refine wpAnyH_take (i := 22) (oi := oSRun222) (v := ?v3x22) rfl (by kernel_rfl) (by kernel_rfl) (by kernel_rfl) (fun _ _ _ h => h) (Or.inl ⟨by rfl, ?hy3x22⟩) hHeld ?rest3x22
           case hy3x22 => (unfold oSRun222; intro w hSw; (try dsimp only at hSw); go_simp; try with_reducible rfl)
           simp only [oSRun222, Act.put, aS9, bS9, cS9]; refine wpAnyH_take (i := 23) (oi := oSRun223) (v := ?v3x23) rfl (by kernel_rfl) (by kernel_rfl) (by kernel_rfl) (fun _ _ _ h => h) (Or.inl ⟨by rfl, ?hy3x23⟩) hHeld ?rest3x23
           case hy3x23 => (unfold oSRun223; intro w hSw; (try dsimp only at hSw); go_simp; try with_reducible rfl)
           simp only [oSRun223, Act.put, aS9, bS9, cS9]; refine wpAnyH_take (i := 24) (oi := oSRun224) (v := ?v3x24) rfl (by kernel_rfl) (by kernel_rfl) (by kernel_rfl) (fun _ _ _ h => h) (Or.inl ⟨by rfl, ?hy3x24⟩) hHeld ?rest3x24
           case hy3x24 => (unfold oSRun224; intro w hSw; (try dsimp only at hSw); go_simp; try with_reducible rfl)
           simp only [oSRun224, Act.put, aS9, bS9, cS9]; refine wpAnyH_take (i := 25) (oi := oSRun225) (v := ?v3x25) rfl (by kernel_rfl) (by kernel_rfl) (by kernel_rfl) (fun _ _ _ h => h) (Or.inl ⟨by rfl, ?hy3x25⟩) hHeld ?rest3x25
           case hy3x25 => (unfold oSRun225; intro w hSw; (try dsimp only at hSw); go_simp; try with_reducible rfl)
           simp only [oSRun225, Act.put, aS9, bS9, cS9]; refine wpAnyH_take (i := 26) (oi := oSRun226) (v := ?v3x26) rfl (by kernel_rfl) (by kernel_rfl) (by kernel_rfl) (fun _ _ _ h => h) (Or.inl ⟨by rfl, ?hy3x26⟩) hHeld ?rest3x26
           case hy3x26 => (unfold oSRun226; intro w hSw; (try dsimp only at hSw); go_simp; try with_reducible rfl)
           simp only [oSRun226, Act.put, aS9, bS9, cS9]; refine wpAnyH_take (i := 27) (oi := oSRun227) (v := ?v3x27) rfl (by kernel_rfl) (by kernel_rfl) (by kernel_rfl) (fun _ _ _ h => h) (Or.inl ⟨by rfl, ?hy3x27⟩) hHeld ?rest3x27
           case hy3x27 => (unfold oSRun227; intro w hSw; (try dsimp only at hSw); go_simp; try with_reducible rfl)
           simp only [oSRun227, Act.put, aS9, bS9, cS9]; refine wpAnyH_take (i := 28) (oi := oSRun228) (v := ?v3x28) rfl (by kernel_rfl) (by kernel_rfl) (by kernel_rfl) (fun _ _ _ h => h) (Or.inl ⟨by rfl, ?hy3x28⟩) hHeld ?rest3x28
           case hy3x28 => (unfold oSRun228; intro w hSw; (try dsimp only at hSw); go_simp; try with_reducible rfl)
           simp only [oSRun228, Act.put, aS9, bS9, cS9]; refine wpAnyH_take (i := 29) (oi := oSRun229) (v := ?v3x29) rfl (by kernel_rfl) (by kernel_rfl) (by kernel_rfl) (fun _ _ _ h => h) (Or.inl ⟨by rfl, ?hy3x29⟩) hHeld ?rest3x29
           case hy3x29 => (unfold oSRun229; intro w hSw; (try dsimp only at hSw); go_simp; try with_reducible rfl)
           simp only [oSRun229, Act.put, aS9, bS9, cS9]; refine wpAnyH_take (i := 30) (oi := oSRun230) (v := ?v3x30) rfl (by kernel_rfl) (by kernel_rfl) (by kernel_rfl) (fun _ _ _ h => h) (Or.inl ⟨by rfl, ?hy3x30⟩) hHeld ?rest3x30
           case hy3x30 => (unfold oSRun230; intro w hSw; (try dsimp only at hSw); go_simp; try with_reducible rfl)
           simp only [oSRun230, Act.put, aS9, bS9, cS9]; refine wpAnyH_take (i := 31) (oi := oSRun231) (v := ?v3x31) rfl (by kernel_rfl) (by kernel_rfl) (by kernel_rfl) (fun _ _ _ h => h) (Or.inl ⟨by rfl, ?hy3x31⟩) hHeld ?rest3x31
           case hy3x31 => (unfold oSRun231; intro w hSw; (try dsimp only at hSw); go_simp; try with_reducible rfl)
           simp only [oSRun231, Act.put, aS9, bS9, cS9]; refine wpAnyH_take (i := 32) (oi := oSRun232) (v := ?v3x32) rfl (by kernel_rfl) (by kernel_rfl) (by kernel_rfl) (fun _ _ _ h => h) (Or.inl ⟨by rfl, ?hy3x32⟩) hHeld ?rest3x32
           case hy3x32 => (unfold oSRun232; intro w hSw; (try dsimp only at hSw); go_simp; try with_reducible rfl)
           simp only [oSRun232, Act.put, aS9, bS9, cS9]; refine wpAnyH_take (i := 33) (oi := oSRun233) (v := ?v3x33) rfl (by kernel_rfl) (by kernel_rfl) (by kernel_rfl) (fun _ _ _ h => h) (Or.inl ⟨by rfl, ?hy3x33⟩) hHeld ?rest3x33
           case hy3x33 => (unfold oSRun233; intro w hSw; (try dsimp only at hSw); go_simp; try with_reducible rfl)
           simp only [oSRun233, Act.put, aS9, bS9, cS9]; refine wpAnyH_take (i := 34) (oi := oSRun234) (v := ?v3x34) rfl (by kernel_rfl) (by kernel_rfl) (by kernel_rfl) (fun _ _ _ h => h) (Or.inl ⟨by rfl, ?hy3x34⟩) hHeld ?rest3x34
           case hy3x34 => (unfold oSRun234; intro w hSw; (try dsimp only at hSw); go_simp; try with_reducible rfl)
           simp only [oSRun234, Act.put, aS9, bS9, cS9]; refine wpAnyH_take (i := 35) (oi := oSRun235) (v := ?v3x35) rfl (by kernel_rfl) (by kernel_rfl) (by kernel_rfl) (fun _ _ _ h => h) (Or.inl ⟨by rfl, ?hy3x35⟩) hHeld ?rest3x35
           case hy3x35 => (unfold oSRun235; intro w hSw; (try dsimp only at hSw); go_simp; try with_reducible rfl)
           simp only [oSRun235, Act.put, aS9, bS9, cS9]; refine wpAnyH_take (i := 36) (oi := oSRun236) (v := ?v3x36) rfl (by kernel_rfl) (by kernel_rfl) (by kernel_rfl) (fun _ _ _ h => h) (Or.inl ⟨by rfl, ?hy3x36⟩) hHeld ?rest3x36
           case hy3x36 => (unfold oSRun236; intro w hSw; (try dsimp only at hSw); go_simp; try with_reducible rfl)
           simp only [oSRun236, Act.put, aS9, bS9, cS9]; refine wpAnyH_take (i := 37) (oi := oSRun237) (v := ?v3x37) rfl (by kernel_rfl) (by kernel_rfl) (by kernel_rfl) (fun _ _ _ h => h) (Or.inl ⟨by rfl, ?hy3x37⟩) hHeld ?rest3x37
           case hy3x37 => (unfold oSRun237; intro w hSw; (try dsimp only at hSw); go_simp; try with_reducible rfl)
           simp only [oSRun237, Act.put, aS9, bS9, cS9]; refine wpAnyH_take (i := 38) (oi := oSRun238) (v := ?v3x38) rfl (by kernel_rfl) (by kernel_rfl) (by kernel_rfl) (fun _ _ _ h => h) (Or.inl ⟨by rfl, ?hy3x38⟩) hHeld ?rest3x38
           case hy3x38 => (unfold oSRun238; intro w hSw; (try dsimp only at hSw); go_simp; try with_reducible rfl)
           simp only [oSRun238, Act.put, aS9, bS9, cS9]; refine wpAnyH_take (i := 39) (oi := oSRun239) (v := ?v3x39) rfl (by kernel_rfl) (by kernel_rfl) (by kernel_rfl) (fun _ _ _ h => h) (Or.inl ⟨by rfl, ?hy3x39⟩) hHeld ?rest3x39
           case hy3x39 => (unfold oSRun239; intro w hSw; (try dsimp only at hSw); go_simp; try with_reducible rfl)
           simp only [oSRun239, Act.put, aS9, bS9, cS9]; refine wpAnyH_take (i := 40) (oi := oSRun240) (v := ?v3x40) rfl (by kernel_rfl) (by kernel_rfl) (by kernel_rfl) (fun _ _ _ h => h) (Or.inl ⟨by rfl, ?hy3x40⟩) hHeld ?rest3x40
           case hy3x40 => (unfold oSRun240; intro w hSw; (try dsimp only at hSw); go_simp; try with_reducible rfl)
           simp only [oSRun240, Act.put, aS9, bS9, cS9]; refine wpAnyH_ready (rs := [41]) (by kernel_rfl) (by simp) ?_
           refine AllReadyH.cons (o := { dst := some 64, op := Op.call { callee := Callee.value (Operand.func 41), args := #[Operand.tmp 62, Operand.tmp 63], argTypes := #[46, 46] }, type := 4, pos := "l08_runs.go:16", after := #[{ on := 39, ground := Ground.data }, { on := 40, ground := Ground.data }, { on := 33, ground := Ground.chain }, { on := 33, ground := Ground.guard }], guard := some (33, true) }) rfl (fun K hK => ?_) AllReadyH.nil
           go_simp
           refine (K6 _).out.mono ?_
           rintro e w3 ⟨rfl, hb⟩
           have HJ3 := hid (RA.nx hb HJ.out.drew); have HR3 := hid (RA.nx hb HR.out.drew)
           go_wp2_with fail
           refine hK.out _ _ ?_ (fun hHeld => ?_)
           · exact ⟨⟨HJ3.out.cell 0, HJ3.out.cell 1, HJ3.out.cell 2, HJ3.out.cell 3⟩, HR3.out.cell 0, (hb.cell hlb).trans e0, (hb.cell hlb).trans e1, (hb.cell hlb).trans e2, (hb.cell hlb).trans e3⟩
           clear hK K
           try simp only [Act.put, aS9, bS9, cS9]
           refine wpAnyH_take (i := 42) (oi := oSRun241) (v := ?v3x42) rfl (by kernel_rfl) (by kernel_rfl) (by kernel_rfl) (fun _ _ _ h => h) (Or.inl ⟨by rfl, ?hy3x42⟩) hHeld ?rest3x42
           case hy3x42 => (unfold oSRun241; intro w hSw; (try dsimp only at hSw); go_simp; try with_reducible rfl)
           simp only [oSRun241, Act.put, aS9, bS9, cS9]; refine wpAnyH_take (i := 43) (oi := oSRun242) (v := ?v3x43) rfl (by kernel_rfl) (by kernel_rfl) (by kernel_rfl) (fun _ _ _ h => h) (Or.inl ⟨by rfl, ?hy3x43⟩) hHeld ?rest3x43
           case hy3x43 => (unfold oSRun242; intro w hSw; (try dsimp only at hSw); go_simp; try with_reducible rfl)
           simp only [oSRun242, Act.put, aS9, bS9, cS9]; refine wpAnyH_take (i := 44) (oi := oSRun243) (v := ?v3x44) rfl (by kernel_rfl) (by kernel_rfl) (by kernel_rfl) (fun _ _ _ h => h) (Or.inl ⟨by rfl, ?hy3x44⟩) hHeld ?rest3x44
           case hy3x44 => (unfold oSRun243; intro w hSw; (try dsimp only at hSw); go_simp; try with_reducible rfl)
           simp only [oSRun243, Act.put, aS9, bS9, cS9]; refine wpAnyH_take (i := 45) (oi := oSRun244) (v := ?v3x45) rfl (by kernel_rfl) (by kernel_rfl) (by kernel_rfl) (fun _ _ _ h => h) (Or.inl ⟨by rfl, ?hy3x45⟩) hHeld ?rest3x45
           case hy3x45 => (unfold oSRun244; intro w hSw; (try dsimp only at hSw); go_simp; try with_reducible rfl)
           simp only [oSRun244, Act.put, aS9, bS9, cS9]; refine wpAnyH_take (i := 46) (oi := oSRun245) (v := undef) rfl (by kernel_rfl) (by kernel_rfl) (by kernel_rfl) (fun _ _ _ h => h) (Or.inr ⟨by rfl, rfl⟩) hHeld ?_; simp only [oSRun245, Act.put, aS9, bS9, cS9]; refine wpAnyH_take (i := 47) (oi := oSRun246) (v := undef) rfl (by kernel_rfl) (by kernel_rfl) (by kernel_rfl) (fun _ _ _ h => h) (Or.inr ⟨by rfl, rfl⟩) hHeld ?_; simp only [oSRun246, Act.put, aS9, bS9, cS9]; refine wpAnyH_take (i := 48) (oi := oSRun247) (v := undef) rfl (by kernel_rfl) (by kernel_rfl) (by kernel_rfl) (fun _ _ _ h => h) (Or.inr ⟨by rfl, rfl⟩) hHeld ?_; simp only [oSRun247, Act.put, aS9, bS9, cS9]; refine wpAnyH_take (i := 49) (oi := oSRun248) (v := undef) rfl (by kernel_rfl) (by kernel_rfl) (by kernel_rfl) (fun _ _ _ h => h) (Or.inr ⟨by rfl, rfl⟩) hHeld ?_; simp only [oSRun248, Act.put, aS9, bS9, cS9]; refine wpAnyH_take (i := 50) (oi := oSRun249) (v := ?v3x50) rfl (by kernel_rfl) (by kernel_rfl) (by kernel_rfl) (fun _ _ _ h => h) (Or.inl ⟨by rfl, ?hy3x50⟩) hHeld ?rest3x50
           case hy3x50 => (unfold oSRun249; intro w hSw; (try dsimp only at hSw); go_simp; try with_reducible rfl)
           simp only [oSRun249, Act.put, aS9, bS9, cS9]; refine wpAnyH_done (by kernel_rfl) ?_ _
           go_wp2
           go_meet
           exact ⟨by rw [E.out], (below_dN (Below.refl _ W2) 1).trans hb⟩
          | true =>
           have E : Hid (BB = decide (X1 ∈ sqL o k)) := by
            have h6 : 0 < k → enLt (o (k - 1)) ⟨X0, X1, true, ⟨#[]⟩⟩ := fun _ => by rw [show k - 1 = j from HJK.out.symm, HY.out]; exact (ltB_iff _ _).1 hls
            show _ = _
            rw [Bool.eq_iff_iff, HBB.out, decide_eq_true_eq]
            constructor
            · intro h
              exact Classical.byContradiction fun q => h (hS.out.2 ⟨HF.out, ⟨h1, h2, h3, h4, h5⟩, h6, q⟩)
            · exact fun h q => (hS.out.1 q).2.2.2 h
           rw [hls] at K6; clear HBB B2 hO2 KNO HE HF HB HWB HS HH HCC B1 R1 HW1 hS hls HY HJK; have KI := fun w3 (hb : Below W2.drew.heap.size W2.drew w3) => hid (sInI8 av (sqL o k).length cv (sqL o k) X1 (by rw [HLv.out]; omega) w3 (Ints.below (w := W2.drew) (show Ints .i64 W2.drew av _ cv _ from hI2.out) hb))
           generalize decide (X1 ∈ sqL o k) = bi at KI E
           clear HLv hI2; refine wp_region_held_drew (S := (fun wx => (wx.cell? ⟨wr.heap.size, 0, none⟩ = some (.string X0) ∧ wx.cell? ⟨wr.heap.size, 1, none⟩ = some (.int .i64 X1) ∧ wx.cell? ⟨wr.heap.size, 2, none⟩ = some (.bool true) ∧ wx.cell? ⟨wr.heap.size, 3, none⟩ = some (.string ⟨#[]⟩)) ∧ wx.cell? ⟨w.heap.size, 0, none⟩ = some (.slice (some ⟨b, off, none⟩) n cap) ∧ wx.cell? ⟨b, off + j * 4, none⟩ = some (.string Y0) ∧ wx.cell? ⟨b, off + j * 4 + 1, none⟩ = some (.int .i64 Y1) ∧ wx.cell? ⟨b, off + j * 4 + 2, none⟩ = some (.bool Y2) ∧ wx.cell? ⟨b, off + j * 4 + 3, none⟩ = some (.string Y3))) (by kernel_rfl) ?_ (fun hHeld => ?_)
           · exact ⟨⟨HJ.out.cell 0, HJ.out.cell 1, HJ.out.cell 2, HJ.out.cell 3⟩, HR.out.cell 0, e0, e1, e2, e3⟩
           refine wpAnyH_take (i := 0) (oi := oSRun20) (v := ?v4x0) rfl (by kernel_rfl) (by kernel_rfl) (by kernel_rfl) (fun _ _ _ h => h) (Or.inl ⟨by rfl, ?hy4x0⟩) hHeld ?rest4x0
           case hy4x0 => (unfold oSRun20; intro w hSw; (try dsimp only at hSw); go_simp; try with_reducible rfl)
           simp only [oSRun20, Act.put, aS9, bS9, cS9]; refine wpAnyH_take (i := 1) (oi := oSRun21) (v := ?v4x1) rfl (by kernel_rfl) (by kernel_rfl) (by kernel_rfl) (fun _ _ _ h => h) (Or.inl ⟨by rfl, ?hy4x1⟩) hHeld ?rest4x1
           case hy4x1 => (unfold oSRun21; intro w hSw; (try dsimp only at hSw); go_simp; try with_reducible rfl)
           simp only [oSRun21, Act.put, aS9, bS9, cS9]; refine wpAnyH_take (i := 2) (oi := oSRun22) (v := ?v4x2) rfl (by kernel_rfl) (by kernel_rfl) (by kernel_rfl) (fun _ _ _ h => h) (Or.inl ⟨by rfl, ?hy4x2⟩) hHeld ?rest4x2
           case hy4x2 => (unfold oSRun22; intro w hSw; (try dsimp only at hSw); go_simp; try with_reducible rfl)
           simp only [oSRun22, Act.put, aS9, bS9, cS9]; refine wpAnyH_take (i := 3) (oi := oSRun23) (v := ?v4x3) rfl (by kernel_rfl) (by kernel_rfl) (by kernel_rfl) (fun _ _ _ h => h) (Or.inl ⟨by rfl, ?hy4x3⟩) hHeld ?rest4x3
           case hy4x3 => (unfold oSRun23; intro w hSw; (try dsimp only at hSw); go_simp; try with_reducible rfl)
           simp only [oSRun23, Act.put, aS9, bS9, cS9]; refine wpAnyH_take (i := 4) (oi := oSRun24) (v := ?v4x4) rfl (by kernel_rfl) (by kernel_rfl) (by kernel_rfl) (fun _ _ _ h => h) (Or.inl ⟨by rfl, ?hy4x4⟩) hHeld ?rest4x4
           case hy4x4 => (unfold oSRun24; intro w hSw; (try dsimp only at hSw); go_simp; try with_reducible rfl)
           simp only [oSRun24, Act.put, aS9, bS9, cS9]; refine wpAnyH_take (i := 5) (oi := oSRun25) (v := ?v4x5) rfl (by kernel_rfl) (by kernel_rfl) (by kernel_rfl) (fun _ _ _ h => h) (Or.inl ⟨by rfl, ?hy4x5⟩) hHeld ?rest4x5
           case hy4x5 => (unfold oSRun25; intro w hSw; (try dsimp only at hSw); go_simp; try with_reducible rfl)
           simp only [oSRun25, Act.put, aS9, bS9, cS9]; refine wpAnyH_take (i := 6) (oi := oSRun26) (v := ?v4x6) rfl (by kernel_rfl) (by kernel_rfl) (by kernel_rfl) (fun _ _ _ h => h) (Or.inl ⟨by rfl, ?hy4x6⟩) hHeld ?rest4x6
           case hy4x6 => (unfold oSRun26; intro w hSw; (try dsimp only at hSw); go_simp; try with_reducible rfl)
           simp only [oSRun26, Act.put, aS9, bS9, cS9]; refine wpAnyH_take (i := 7) (oi := oSRun27) (v := ?v4x7) rfl (by kernel_rfl) (by kernel_rfl) (by kernel_rfl) (fun _ _ _ h => h) (Or.inl ⟨by rfl, ?hy4x7⟩) hHeld ?rest4x7
           case hy4x7 => (unfold oSRun27; intro w hSw; (try dsimp only at hSw); go_simp; try with_reducible rfl)
           simp only [oSRun27, Act.put, aS9, bS9, cS9]; refine wpAnyH_take (i := 8) (oi := oSRun28) (v := ?v4x8) rfl (by kernel_rfl) (by kernel_rfl) (by kernel_rfl) (fun _ _ _ h => h) (Or.inl ⟨by rfl, ?hy4x8⟩) hHeld ?rest4x8
           case hy4x8 => (unfold oSRun28; intro w hSw; (try dsimp only at hSw); go_simp; try with_reducible rfl)
           simp only [oSRun28, Act.put, aS9, bS9, cS9]; refine wpAnyH_take (i := 9) (oi := oSRun29) (v := ?v4x9) rfl (by kernel_rfl) (by kernel_rfl) (by kernel_rfl) (fun _ _ _ h => h) (Or.inl ⟨by rfl, ?hy4x9⟩) hHeld ?rest4x9
           case hy4x9 => (unfold oSRun29; intro w hSw; (try dsimp only at hSw); go_simp; try with_reducible rfl)
           simp only [oSRun29, Act.put, aS9, bS9, cS9]; refine wpAnyH_take (i := 10) (oi := oSRun210) (v := ?v4x10) rfl (by kernel_rfl) (by kernel_rfl) (by kernel_rfl) (fun _ _ _ h => h) (Or.inl ⟨by rfl, ?hy4x10⟩) hHeld ?rest4x10
           case hy4x10 => (unfold oSRun210; intro w hSw; (try dsimp only at hSw); go_simp; try with_reducible rfl)
           simp only [oSRun210, Act.put, aS9, bS9, cS9]; refine wpAnyH_take (i := 11) (oi := oSRun211) (v := ?v4x11) rfl (by kernel_rfl) (by kernel_rfl) (by kernel_rfl) (fun _ _ _ h => h) (Or.inl ⟨by rfl, ?hy4x11⟩) hHeld ?rest4x11
           case hy4x11 => (unfold oSRun211; intro w hSw; (try dsimp only at hSw); go_simp; try with_reducible rfl)
           simp only [oSRun211, Act.put, aS9, bS9, cS9]; refine wpAnyH_take (i := 12) (oi := oSRun212) (v := ?v4x12) rfl (by kernel_rfl) (by kernel_rfl) (by kernel_rfl) (fun _ _ _ h => h) (Or.inl ⟨by rfl, ?hy4x12⟩) hHeld ?rest4x12
           case hy4x12 => (unfold oSRun212; intro w hSw; (try dsimp only at hSw); go_simp; try with_reducible rfl)
           simp only [oSRun212, Act.put, aS9, bS9, cS9]; refine wpAnyH_take (i := 13) (oi := oSRun213) (v := ?v4x13) rfl (by kernel_rfl) (by kernel_rfl) (by kernel_rfl) (fun _ _ _ h => h) (Or.inl ⟨by rfl, ?hy4x13⟩) hHeld ?rest4x13
           case hy4x13 => (unfold oSRun213; intro w hSw; (try dsimp only at hSw); go_simp; try with_reducible rfl)
           simp only [oSRun213, Act.put, aS9, bS9, cS9]; refine wpAnyH_take (i := 14) (oi := oSRun214) (v := ?v4x14) rfl (by kernel_rfl) (by kernel_rfl) (by kernel_rfl) (fun _ _ _ h => h) (Or.inl ⟨by rfl, ?hy4x14⟩) hHeld ?rest4x14
           case hy4x14 => (unfold oSRun214; intro w hSw; (try dsimp only at hSw); go_simp; try with_reducible rfl)
           simp only [oSRun214, Act.put, aS9, bS9, cS9]; refine wpAnyH_take (i := 15) (oi := oSRun215) (v := ?v4x15) rfl (by kernel_rfl) (by kernel_rfl) (by kernel_rfl) (fun _ _ _ h => h) (Or.inl ⟨by rfl, ?hy4x15⟩) hHeld ?rest4x15
           case hy4x15 => (unfold oSRun215; intro w hSw; (try dsimp only at hSw); go_simp; try with_reducible rfl)
           simp only [oSRun215, Act.put, aS9, bS9, cS9]; refine wpAnyH_take (i := 16) (oi := oSRun216) (v := ?v4x16) rfl (by kernel_rfl) (by kernel_rfl) (by kernel_rfl) (fun _ _ _ h => h) (Or.inl ⟨by rfl, ?hy4x16⟩) hHeld ?rest4x16
           case hy4x16 => (unfold oSRun216; intro w hSw; (try dsimp only at hSw); go_simp; try with_reducible rfl)
           simp only [oSRun216, Act.put, aS9, bS9, cS9]; refine wpAnyH_take (i := 17) (oi := oSRun217) (v := ?v4x17) rfl (by kernel_rfl) (by kernel_rfl) (by kernel_rfl) (fun _ _ _ h => h) (Or.inl ⟨by rfl, ?hy4x17⟩) hHeld ?rest4x17
           case hy4x17 => (unfold oSRun217; intro w hSw; (try dsimp only at hSw); go_simp; try with_reducible rfl)
           simp only [oSRun217, Act.put, aS9, bS9, cS9]; refine wpAnyH_take (i := 18) (oi := oSRun218) (v := ?v4x18) rfl (by kernel_rfl) (by kernel_rfl) (by kernel_rfl) (fun _ _ _ h => h) (Or.inl ⟨by rfl, ?hy4x18⟩) hHeld ?rest4x18
           case hy4x18 => (unfold oSRun218; intro w hSw; (try dsimp only at hSw); go_simp; try with_reducible rfl)
           simp only [oSRun218, Act.put, aS9, bS9, cS9]; refine wpAnyH_take (i := 19) (oi := oSRun219) (v := ?v4x19) rfl (by kernel_rfl) (by kernel_rfl) (by kernel_rfl) (fun _ _ _ h => h) (Or.inl ⟨by rfl, ?hy4x19⟩) hHeld ?rest4x19
           case hy4x19 => (unfold oSRun219; intro w hSw; (try dsimp only at hSw); go_simp; try with_reducible rfl)
           simp only [oSRun219, Act.put, aS9, bS9, cS9]; refine wpAnyH_take (i := 20) (oi := oSRun220) (v := ?v4x20) rfl (by kernel_rfl) (by kernel_rfl) (by kernel_rfl) (fun _ _ _ h => h) (Or.inl ⟨by rfl, ?hy4x20⟩) hHeld ?rest4x20
           case hy4x20 => (unfold oSRun220; intro w hSw; (try dsimp only at hSw); go_simp; try with_reducible rfl)
           simp only [oSRun220, Act.put, aS9, bS9, cS9]; refine wpAnyH_take (i := 21) (oi := oSRun221) (v := ?v4x21) rfl (by kernel_rfl) (by kernel_rfl) (by kernel_rfl) (fun _ _ _ h => h) (Or.inl ⟨by rfl, ?hy4x21⟩) hHeld ?rest4x21
           case hy4x21 => (unfold oSRun221; intro w hSw; (try dsimp only at hSw); go_simp; try with_reducible rfl)
           simp only [oSRun221, Act.put, aS9, bS9, cS9]; refine wpAnyH_take (i := 22) (oi := oSRun222) (v := ?v4x22) rfl (by kernel_rfl) (by kernel_rfl) (by kernel_rfl) (fun _ _ _ h => h) (Or.inl ⟨by rfl, ?hy4x22⟩) hHeld ?rest4x22
           case hy4x22 => (unfold oSRun222; intro w hSw; (try dsimp only at hSw); go_simp; try with_reducible rfl)
           simp only [oSRun222, Act.put, aS9, bS9, cS9]; refine wpAnyH_take (i := 23) (oi := oSRun223) (v := ?v4x23) rfl (by kernel_rfl) (by kernel_rfl) (by kernel_rfl) (fun _ _ _ h => h) (Or.inl ⟨by rfl, ?hy4x23⟩) hHeld ?rest4x23
           case hy4x23 => (unfold oSRun223; intro w hSw; (try dsimp only at hSw); go_simp; try with_reducible rfl)
           simp only [oSRun223, Act.put, aS9, bS9, cS9]; refine wpAnyH_take (i := 24) (oi := oSRun224) (v := ?v4x24) rfl (by kernel_rfl) (by kernel_rfl) (by kernel_rfl) (fun _ _ _ h => h) (Or.inl ⟨by rfl, ?hy4x24⟩) hHeld ?rest4x24
           case hy4x24 => (unfold oSRun224; intro w hSw; (try dsimp only at hSw); go_simp; try with_reducible rfl)
           simp only [oSRun224, Act.put, aS9, bS9, cS9]; refine wpAnyH_take (i := 25) (oi := oSRun225) (v := ?v4x25) rfl (by kernel_rfl) (by kernel_rfl) (by kernel_rfl) (fun _ _ _ h => h) (Or.inl ⟨by rfl, ?hy4x25⟩) hHeld ?rest4x25
           case hy4x25 => (unfold oSRun225; intro w hSw; (try dsimp only at hSw); go_simp; try with_reducible rfl)
           simp only [oSRun225, Act.put, aS9, bS9, cS9]; refine wpAnyH_take (i := 26) (oi := oSRun226) (v := ?v4x26) rfl (by kernel_rfl) (by kernel_rfl) (by kernel_rfl) (fun _ _ _ h => h) (Or.inl ⟨by rfl, ?hy4x26⟩) hHeld ?rest4x26
           case hy4x26 => (unfold oSRun226; intro w hSw; (try dsimp only at hSw); go_simp; try with_reducible rfl)
           simp only [oSRun226, Act.put, aS9, bS9, cS9]; refine wpAnyH_take (i := 27) (oi := oSRun227) (v := ?v4x27) rfl (by kernel_rfl) (by kernel_rfl) (by kernel_rfl) (fun _ _ _ h => h) (Or.inl ⟨by rfl, ?hy4x27⟩) hHeld ?rest4x27
           case hy4x27 => (unfold oSRun227; intro w hSw; (try dsimp only at hSw); go_simp; try with_reducible rfl)
           simp only [oSRun227, Act.put, aS9, bS9, cS9]; refine wpAnyH_take (i := 28) (oi := oSRun228) (v := ?v4x28) rfl (by kernel_rfl) (by kernel_rfl) (by kernel_rfl) (fun _ _ _ h => h) (Or.inl ⟨by rfl, ?hy4x28⟩) hHeld ?rest4x28
           case hy4x28 => (unfold oSRun228; intro w hSw; (try dsimp only at hSw); go_simp; try with_reducible rfl)
           simp only [oSRun228, Act.put, aS9, bS9, cS9]; refine wpAnyH_take (i := 29) (oi := oSRun229) (v := ?v4x29) rfl (by kernel_rfl) (by kernel_rfl) (by kernel_rfl) (fun _ _ _ h => h) (Or.inl ⟨by rfl, ?hy4x29⟩) hHeld ?rest4x29
           case hy4x29 => (unfold oSRun229; intro w hSw; (try dsimp only at hSw); go_simp; try with_reducible rfl)
           simp only [oSRun229, Act.put, aS9, bS9, cS9]; refine wpAnyH_take (i := 30) (oi := oSRun230) (v := ?v4x30) rfl (by kernel_rfl) (by kernel_rfl) (by kernel_rfl) (fun _ _ _ h => h) (Or.inl ⟨by rfl, ?hy4x30⟩) hHeld ?rest4x30
           case hy4x30 => (unfold oSRun230; intro w hSw; (try dsimp only at hSw); go_simp; try with_reducible rfl)
           simp only [oSRun230, Act.put, aS9, bS9, cS9]; refine wpAnyH_take (i := 31) (oi := oSRun231) (v := ?v4x31) rfl (by kernel_rfl) (by kernel_rfl) (by kernel_rfl) (fun _ _ _ h => h) (Or.inl ⟨by rfl, ?hy4x31⟩) hHeld ?rest4x31
           case hy4x31 => (unfold oSRun231; intro w hSw; (try dsimp only at hSw); go_simp; try with_reducible rfl)
           simp only [oSRun231, Act.put, aS9, bS9, cS9]; refine wpAnyH_take (i := 32) (oi := oSRun232) (v := ?v4x32) rfl (by kernel_rfl) (by kernel_rfl) (by kernel_rfl) (fun _ _ _ h => h) (Or.inl ⟨by rfl, ?hy4x32⟩) hHeld ?rest4x32
           case hy4x32 => (unfold oSRun232; intro w hSw; (try dsimp only at hSw); go_simp; try with_reducible rfl)
           simp only [oSRun232, Act.put, aS9, bS9, cS9]; refine wpAnyH_take (i := 33) (oi := oSRun233) (v := ?v4x33) rfl (by kernel_rfl) (by kernel_rfl) (by kernel_rfl) (fun _ _ _ h => h) (Or.inl ⟨by rfl, ?hy4x33⟩) hHeld ?rest4x33
           case hy4x33 => (unfold oSRun233; intro w hSw; (try dsimp only at hSw); go_simp; try with_reducible rfl)
           simp only [oSRun233, Act.put, aS9, bS9, cS9]; refine wpAnyH_take (i := 34) (oi := oSRun234) (v := ?v4x34) rfl (by kernel_rfl) (by kernel_rfl) (by kernel_rfl) (fun _ _ _ h => h) (Or.inl ⟨by rfl, ?hy4x34⟩) hHeld ?rest4x34
           case hy4x34 => (unfold oSRun234; intro w hSw; (try dsimp only at hSw); go_simp; try with_reducible rfl)
           simp only [oSRun234, Act.put, aS9, bS9, cS9]; refine wpAnyH_take (i := 35) (oi := oSRun235) (v := ?v4x35) rfl (by kernel_rfl) (by kernel_rfl) (by kernel_rfl) (fun _ _ _ h => h) (Or.inl ⟨by rfl, ?hy4x35⟩) hHeld ?rest4x35
           case hy4x35 => (unfold oSRun235; intro w hSw; (try dsimp only at hSw); go_simp; try with_reducible rfl)
           simp only [oSRun235, Act.put, aS9, bS9, cS9]; refine wpAnyH_take (i := 36) (oi := oSRun236) (v := ?v4x36) rfl (by kernel_rfl) (by kernel_rfl) (by kernel_rfl) (fun _ _ _ h => h) (Or.inl ⟨by rfl, ?hy4x36⟩) hHeld ?rest4x36
           case hy4x36 => (unfold oSRun236; intro w hSw; (try dsimp only at hSw); go_simp; try with_reducible rfl)
           simp only [oSRun236, Act.put, aS9, bS9, cS9]; refine wpAnyH_take (i := 37) (oi := oSRun237) (v := ?v4x37) rfl (by kernel_rfl) (by kernel_rfl) (by kernel_rfl) (fun _ _ _ h => h) (Or.inl ⟨by rfl, ?hy4x37⟩) hHeld ?rest4x37
           case hy4x37 => (unfold oSRun237; intro w hSw; (try dsimp only at hSw); go_simp; try with_reducible rfl)
           simp only [oSRun237, Act.put, aS9, bS9, cS9]; refine wpAnyH_take (i := 38) (oi := oSRun238) (v := ?v4x38) rfl (by kernel_rfl) (by kernel_rfl) (by kernel_rfl) (fun _ _ _ h => h) (Or.inl ⟨by rfl, ?hy4x38⟩) hHeld ?rest4x38
           case hy4x38 => (unfold oSRun238; intro w hSw; (try dsimp only at hSw); go_simp; try with_reducible rfl)
           simp only [oSRun238, Act.put, aS9, bS9, cS9]; refine wpAnyH_take (i := 39) (oi := oSRun239) (v := ?v4x39) rfl (by kernel_rfl) (by kernel_rfl) (by kernel_rfl) (fun _ _ _ h => h) (Or.inl ⟨by rfl, ?hy4x39⟩) hHeld ?rest4x39
           case hy4x39 => (unfold oSRun239; intro w hSw; (try dsimp only at hSw); go_simp; try with_reducible rfl)
           simp only [oSRun239, Act.put, aS9, bS9, cS9]; refine wpAnyH_take (i := 40) (oi := oSRun240) (v := ?v4x40) rfl (by kernel_rfl) (by kernel_rfl) (by kernel_rfl) (fun _ _ _ h => h) (Or.inl ⟨by rfl, ?hy4x40⟩) hHeld ?rest4x40
           case hy4x40 => (unfold oSRun240; intro w hSw; (try dsimp only at hSw); go_simp; try with_reducible rfl)
           simp only [oSRun240, Act.put, aS9, bS9, cS9]; refine wpAnyH_ready (rs := [41]) (by kernel_rfl) (by simp) ?_
           refine AllReadyH.cons (o := { dst := some 64, op := Op.call { callee := Callee.value (Operand.func 41), args := #[Operand.tmp 62, Operand.tmp 63], argTypes := #[46, 46] }, type := 4, pos := "l08_runs.go:16", after := #[{ on := 39, ground := Ground.data }, { on := 40, ground := Ground.data }, { on := 33, ground := Ground.chain }, { on := 33, ground := Ground.guard }], guard := some (33, true) }) rfl (fun K hK => ?_) AllReadyH.nil
           go_simp
           refine (K6 _).out.mono ?_
           rintro e w3 ⟨rfl, hb⟩
           have HJ3 := hid (RA.nx hb HJ.out.drew); have HR3 := hid (RA.nx hb HR.out.drew)
           go_wp2_with fail
           refine hK.out _ _ ?_ (fun hHeld => ?_)
           · exact ⟨⟨HJ3.out.cell 0, HJ3.out.cell 1, HJ3.out.cell 2, HJ3.out.cell 3⟩, HR3.out.cell 0, (hb.cell hlb).trans e0, (hb.cell hlb).trans e1, (hb.cell hlb).trans e2, (hb.cell hlb).trans e3⟩
           clear hK K
           try simp only [Act.put, aS9, bS9, cS9]
           refine wpAnyH_take (i := 42) (oi := oSRun241) (v := ?v4x42) rfl (by kernel_rfl) (by kernel_rfl) (by kernel_rfl) (fun _ _ _ h => h) (Or.inl ⟨by rfl, ?hy4x42⟩) hHeld ?rest4x42
           case hy4x42 => (unfold oSRun241; intro w hSw; (try dsimp only at hSw); go_simp; try with_reducible rfl)
           simp only [oSRun241, Act.put, aS9, bS9, cS9]; refine wpAnyH_take (i := 43) (oi := oSRun242) (v := ?v4x43) rfl (by kernel_rfl) (by kernel_rfl) (by kernel_rfl) (fun _ _ _ h => h) (Or.inl ⟨by rfl, ?hy4x43⟩) hHeld ?rest4x43
           case hy4x43 => (unfold oSRun242; intro w hSw; (try dsimp only at hSw); go_simp; try with_reducible rfl)
           simp only [oSRun242, Act.put, aS9, bS9, cS9]; refine wpAnyH_take (i := 44) (oi := oSRun243) (v := ?v4x44) rfl (by kernel_rfl) (by kernel_rfl) (by kernel_rfl) (fun _ _ _ h => h) (Or.inl ⟨by rfl, ?hy4x44⟩) hHeld ?rest4x44
           case hy4x44 => (unfold oSRun243; intro w hSw; (try dsimp only at hSw); go_simp; try with_reducible rfl)
           simp only [oSRun243, Act.put, aS9, bS9, cS9]; refine wpAnyH_take (i := 45) (oi := oSRun244) (v := ?v4x45) rfl (by kernel_rfl) (by kernel_rfl) (by kernel_rfl) (fun _ _ _ h => h) (Or.inl ⟨by rfl, ?hy4x45⟩) hHeld ?rest4x45
           case hy4x45 => (unfold oSRun244; intro w hSw; (try dsimp only at hSw); go_simp; try with_reducible rfl)
           simp only [oSRun244, Act.put, aS9, bS9, cS9]; refine wpAnyH_take (i := 46) (oi := oSRun245) (v := ?v4x46) rfl (by kernel_rfl) (by kernel_rfl) (by kernel_rfl) (fun _ _ _ h => h) (Or.inl ⟨by rfl, ?hy4x46⟩) hHeld ?rest4x46
           case hy4x46 => (unfold oSRun245; intro w hSw; (try dsimp only at hSw); go_simp; try with_reducible rfl)
           simp only [oSRun245, Act.put, aS9, bS9, cS9]; refine wpAnyH_take (i := 47) (oi := oSRun246) (v := ?v4x47) rfl (by kernel_rfl) (by kernel_rfl) (by kernel_rfl) (fun _ _ _ h => h) (Or.inl ⟨by rfl, ?hy4x47⟩) hHeld ?rest4x47
           case hy4x47 => (unfold oSRun246; intro w hSw; (try dsimp only at hSw); go_simp; try with_reducible rfl)
           simp only [oSRun246, Act.put, aS9, bS9, cS9]; refine wpAnyH_take (i := 48) (oi := oSRun247) (v := ?v4x48) rfl (by kernel_rfl) (by kernel_rfl) (by kernel_rfl) (fun _ _ _ h => h) (Or.inl ⟨by rfl, ?hy4x48⟩) hHeld ?rest4x48
           case hy4x48 => (unfold oSRun247; intro w hSw; (try dsimp only at hSw); go_simp; try with_reducible rfl)
           simp only [oSRun247, Act.put, aS9, bS9, cS9]; refine wpAnyH_ready (rs := [49]) (by kernel_rfl) (by simp) ?_
           refine AllReadyH.cons (o := { dst := some 72, op := Op.call { callee := Callee.value (Operand.func 23), args := #[Operand.tmp 69, Operand.tmp 71], argTypes := #[59, 2] }, type := 4, pos := "l08_runs.go:16", after := #[{ on := 46, ground := Ground.data }, { on := 48, ground := Ground.data }, { on := 45, ground := Ground.chain }, { on := 45, ground := Ground.guard }], guard := some (45, false) }) rfl (fun K hK => ?_) AllReadyH.nil
           go_simp
           refine (KI _ hb).out.mono ?_
           rintro e w4 ⟨rfl, rfl⟩
           go_wp2_with fail
           refine hK.out _ _ ?_ (fun hHeld => ?_)
           · exact hHeld
           clear hK K
           try simp only [Act.put, aS9, bS9, cS9]
           refine wpAnyH_take (i := 50) (oi := oSRun249) (v := ?v4x50) rfl (by kernel_rfl) (by kernel_rfl) (by kernel_rfl) (fun _ _ _ h => h) (Or.inl ⟨by rfl, ?hy4x50⟩) hHeld ?rest4x50
           case hy4x50 => (unfold oSRun249; intro w hSw; (try dsimp only at hSw); go_simp; try with_reducible rfl)
           simp only [oSRun249, Act.put, aS9, bS9, cS9]; refine wpAnyH_done (by kernel_rfl) ?_ _
           go_wp2
           go_meet
           exact ⟨by rw [E.out], (below_dN (Below.refl _ W2) 1).trans hb⟩
        · have d4 : X3.toList.isEmpty = false := txt_ne hx
          have E : Hid (BB = true) := HBB.out.2 fun h => (hS.out.1 h).2.1.2.2.2.1 ⟨rfl, hx⟩; clear HBB HJ HR B2 G2 hI2 hO2 KNO HE HF HB HWB HS HH HLv HCC B1 R1 HW1 hS
          go_quiet (fail)
          go_wp2
          go_meet
          exact ⟨by rw [E.out], below_dN (Below.refl _ _) _⟩
      case rest =>
       obtain ⟨rfl, hb9⟩ := hcut; have J9 := hid (HJ.out.below hb9 HJ.out.lt); have O9 := hid (OwnNums.nx hb9 hO2.out); have B9 := hid (B2.out.trans (hb9.mono B2.out.size)); clear hb9 HJ HR hO2 hI2 B2 G2 q0 q1 q2 q3 q4
       cases hBB : BB with
       | true =>
        have E := hid (KNO.out (HBB.out.1 hBB)); clear hBB HBB J9 O9
        go_wp2
        go_ret
        exact ⟨by rw [E.out]; rfl, B1.out.trans (B9.out.mono B1.out.size)⟩
       | false =>
        have E : Hid (runTo (k + 1) o) := Classical.byContradiction fun q => by have := HBB.out.2 q; rw [hBB] at this; cases this
        have HL : Hid ((sqL o k).length ≤ 17592186044414) := by show _ ≤ _; rw [HLv.out]; omega
        have HSq : Hid (sqL o (k + 1) = sqL o k ++ [X1]) := by show _ = _; rw [sqL_succ, HE.out]
        have q9 := J9.out.cell 1; clear hBB HBB J9
        go_wp2_with (refine append_num W1 _ (by rfl) (.tmp 74) (.tmp 77) 59 (by rfl) 2 .i64 8 Tryz.underlying59 Tryz.info64 (by decide) _ (sqL o k) X1 (by rfl) O9.out B9.out (by rfl) HL.out ?_; intro v' w6 hown' hbel' hsome)
        go_roundw
        case rel => exact ⟨k + 1, by omega, by go_num, E.out, by rw [HSq.out]; exact hown', hbel'⟩
        case measure => simp [intOf]; omega
    · have hlt' : ¬ (k : Int) < (n : Int) := by omega
      have hke : k = n := by omega
      subst hke; have E : Hid (runV k o = 0) := runV_ok ⟨hbig, HF.out⟩
      go_wp2
      go_ret
      exact ⟨by rw [E.out]; rfl, HWB.out⟩
 · have hbig' : (1000 : Int) < (n : Int) := by omega
   have E : Hid (runV n o = 1) := runV_no fun h => hbig h.1
   go_enter Tryz.func22, Tryz.ntmps22
   go_upto_region 1 with fail
   rw [← HW1.out]
   go_wp2
   go_ret
   exact ⟨by rw [E.out]; rfl, B1.out⟩
end Go.Proofs.YtcbmgpdpjagaoaaGreat
