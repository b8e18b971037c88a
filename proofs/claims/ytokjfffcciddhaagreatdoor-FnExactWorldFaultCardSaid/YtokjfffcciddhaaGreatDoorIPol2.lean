import Derived.Test.YtokjfffcciddhaaGreatDoorIPol
import Derived.Test.YtokjfffcciddhaaGreatDoorSPol
import Derived.Stop.Asserts
namespace Go.Proofs.YtokjfffcciddhaaGreatDoor
open Go.RowKit
/-! The program's conditions: behind an interface. -/
set_option maxRecDepth 20000 in
set_option maxHeartbeats 2000000 in
theorem iWordIf (tx : ByteArray) (ht : tx.size ≤ 1048576) (w : World) :
    Calls Tryz.prog 161 #[.agg #[.string tx]] w fun e w' => e = .returned (.bool (pb (wdP tx))) ∧ Below w.heap.size w w' := by
  go_enter Tryz.func161, Tryz.ntmps161
  go_wp2_with fail
  refine (iWord tx ht _).mono ?_
  rintro e w2 ⟨rfl, rfl⟩
  go_wp2
  go_ret
  exact ⟨rfl, balCn (Below.refl _ _) _⟩
def tmQ (tm : Int) : Prop := 0 ≤ tm ∧ tm ≤ 4102444800
set_option maxRecDepth 20000 in
set_option maxHeartbeats 2000000 in
theorem iTimeIf (tm : Int) (w : World) :
    Calls Tryz.prog 163 #[.agg #[.int .i64 tm]] w fun e w' => e = .returned (.bool (pb (tmQ tm))) ∧ Below w.heap.size w w' := by
  have B : Hid (∀ o, Below w.heap.size w (w.alloc o)) := fun o => balCn (Below.refl _ _) _
  by_cases h1 : 0 ≤ tm
  · by_cases h2 : tm ≤ 4102444800
    · have N : Hid (pb (tmQ tm) = true) := pb_t ⟨h1, h2⟩
      go_enter Tryz.func163, Tryz.ntmps163
      go_wp2
      go_ret
      exact ⟨by rw [N.out]; rfl, B.out _⟩
    · have N : Hid (pb (tmQ tm) = false) := pb_f fun h => h2 h.2
      have d : decide (tm ≤ 4102444800) = false := decide_eq_false h2
      go_enter Tryz.func163, Tryz.ntmps163
      go_wp2
      go_ret
      exact ⟨by rw [N.out]; rfl, B.out _⟩
  · have N : Hid (pb (tmQ tm) = false) := pb_f fun h => h1 h.1
    have d : decide ((0 : Int) ≤ tm) = false := decide_eq_false h1
    go_enter Tryz.func163, Tryz.ntmps163
    go_wp2
    go_ret
    exact ⟨by rw [N.out]; rfl, B.out _⟩
theorem ta1t (v : Value) (w : World) : (Instr.typeAssert (.iface 164 v) 153 164 true).run Tryz.prog w = .ok (.tuple #[v, .bool true]) w := by kernel_rfl
theorem mt1 (tx : ByteArray) (w : World) : (Go.method 335 164 (.agg #[.string tx]) "loop.example/g00020/impl.fits").run Tryz.prog w = .ok (161, (.agg #[.string tx])) w := by kernel_rfl
set_option maxRecDepth 20000 in
set_option maxHeartbeats 2000000 in
theorem iCond1 (tx : ByteArray) (tm : Int) (w : World) :
    Calls Tryz.prog 112 #[.agg #[.int .i64 1, .string tx, .int .i64 tm]] w fun e w' => e = .returned (.iface 164 (.agg #[.string tx])) ∧ w' = w.alloc (.cells #[.int .i64 1, .string tx, .int .i64 tm] 112) := by
  go_enter Tryz.func112, Tryz.ntmps112
  go_wp2
  go_ret
  exact ⟨rfl, rfl⟩
set_option maxRecDepth 20000 in
set_option maxHeartbeats 2000000 in
theorem iPlain1 (tx : ByteArray) (w : World) :
    Calls Tryz.prog 101 #[.iface 164 (.agg #[.string tx])] w fun e w' => e = .returned (.agg #[.int .i64 1, .string tx, .int .i64 0]) ∧ Below w.heap.size w w' := by
  have q1 := ta1t
  go_enter Tryz.func101, Tryz.ntmps101
  go_wp2
  refine bodyPost_ret (v := .agg #[.int .i64 1, .string tx, .int .i64 0]) ?_ rfl ⟨rfl, balCn (balCn (Below.refl _ _) _) _⟩
  exact results_cell_row Tryz.results101 _ _ w.heap.size _ _ _ _ rfl ((RowAt.new _ _ _).alloc _) Tryz.underlying112 rfl (by kernel_rfl)
theorem ta2t (v : Value) (w : World) : (Instr.typeAssert (.iface 168 v) 153 168 true).run Tryz.prog w = .ok (.tuple #[v, .bool true]) w := by kernel_rfl
theorem ta2n1 (v : Value) (w : World) : (Instr.typeAssert (.iface 168 v) 153 164 true).run Tryz.prog w = .ok (.tuple #[.agg #[.string ⟨#[]⟩], .bool false]) w := by kernel_rfl
theorem mt2 (tm : Int) (w : World) : (Go.method 335 168 (.agg #[.int .i64 tm]) "loop.example/g00020/impl.fits").run Tryz.prog w = .ok (163, (.agg #[.int .i64 tm])) w := by kernel_rfl
set_option maxRecDepth 20000 in
set_option maxHeartbeats 2000000 in
theorem iCond2 (tx : ByteArray) (tm : Int) (w : World) :
    Calls Tryz.prog 112 #[.agg #[.int .i64 2, .string tx, .int .i64 tm]] w fun e w' => e = .returned (.iface 168 (.agg #[.int .i64 tm])) ∧ w' = w.alloc (.cells #[.int .i64 2, .string tx, .int .i64 tm] 112) := by
  go_enter Tryz.func112, Tryz.ntmps112
  go_wp2
  go_ret
  exact ⟨rfl, rfl⟩
set_option maxRecDepth 20000 in
set_option maxHeartbeats 2000000 in
theorem iPlain2 (tm : Int) (w : World) :
    Calls Tryz.prog 101 #[.iface 168 (.agg #[.int .i64 tm])] w fun e w' => e = .returned (.agg #[.int .i64 2, .string ⟨#[]⟩, .int .i64 tm]) ∧ Below w.heap.size w w' := by
  have q2 := ta2t
  have q1 := ta2n1
  go_enter Tryz.func101, Tryz.ntmps101
  go_wp2
  refine bodyPost_ret (v := .agg #[.int .i64 2, .string ⟨#[]⟩, .int .i64 tm]) ?_ rfl ⟨rfl, balCn (balCn (Below.refl _ _) _) _⟩
  exact results_cell_row Tryz.results101 _ _ w.heap.size _ _ _ _ rfl ((RowAt.new _ _ _).alloc _) Tryz.underlying112 rfl (by kernel_rfl)
theorem ta3t (v : Value) (w : World) : (Instr.typeAssert (.iface 169 v) 153 169 true).run Tryz.prog w = .ok (.tuple #[v, .bool true]) w := by kernel_rfl
theorem ta3n1 (v : Value) (w : World) : (Instr.typeAssert (.iface 169 v) 153 164 true).run Tryz.prog w = .ok (.tuple #[.agg #[.string ⟨#[]⟩], .bool false]) w := by kernel_rfl
theorem ta3n2 (v : Value) (w : World) : (Instr.typeAssert (.iface 169 v) 153 168 true).run Tryz.prog w = .ok (.tuple #[.agg #[.int .i64 0], .bool false]) w := by kernel_rfl
theorem mt3 (tm : Int) (w : World) : (Go.method 335 169 (.agg #[.int .i64 tm]) "loop.example/g00020/impl.fits").run Tryz.prog w = .ok (163, (.agg #[.int .i64 tm])) w := by kernel_rfl
set_option maxRecDepth 20000 in
set_option maxHeartbeats 2000000 in
theorem iCond3 (tx : ByteArray) (tm : Int) (w : World) :
    Calls Tryz.prog 112 #[.agg #[.int .i64 3, .string tx, .int .i64 tm]] w fun e w' => e = .returned (.iface 169 (.agg #[.int .i64 tm])) ∧ w' = w.alloc (.cells #[.int .i64 3, .string tx, .int .i64 tm] 112) := by
  go_enter Tryz.func112, Tryz.ntmps112
  go_wp2
  go_ret
  exact ⟨rfl, rfl⟩
set_option maxRecDepth 20000 in
set_option maxHeartbeats 2000000 in
theorem iPlain3 (tm : Int) (w : World) :
    Calls Tryz.prog 101 #[.iface 169 (.agg #[.int .i64 tm])] w fun e w' => e = .returned (.agg #[.int .i64 3, .string ⟨#[]⟩, .int .i64 tm]) ∧ Below w.heap.size w w' := by
  have q3 := ta3t
  have q1 := ta3n1
  have q2 := ta3n2
  go_enter Tryz.func101, Tryz.ntmps101
  go_wp2
  refine bodyPost_ret (v := .agg #[.int .i64 3, .string ⟨#[]⟩, .int .i64 tm]) ?_ rfl ⟨rfl, balCn (balCn (Below.refl _ _) _) _⟩
  exact results_cell_row Tryz.results101 _ _ w.heap.size _ _ _ _ rfl ((RowAt.new _ _ _).alloc _) Tryz.underlying112 rfl (by kernel_rfl)
theorem ta4t (v : Value) (w : World) : (Instr.typeAssert (.iface 170 v) 153 170 true).run Tryz.prog w = .ok (.tuple #[v, .bool true]) w := by kernel_rfl
theorem ta4n1 (v : Value) (w : World) : (Instr.typeAssert (.iface 170 v) 153 164 true).run Tryz.prog w = .ok (.tuple #[.agg #[.string ⟨#[]⟩], .bool false]) w := by kernel_rfl
theorem ta4n2 (v : Value) (w : World) : (Instr.typeAssert (.iface 170 v) 153 168 true).run Tryz.prog w = .ok (.tuple #[.agg #[.int .i64 0], .bool false]) w := by kernel_rfl
theorem ta4n3 (v : Value) (w : World) : (Instr.typeAssert (.iface 170 v) 153 169 true).run Tryz.prog w = .ok (.tuple #[.agg #[.int .i64 0], .bool false]) w := by kernel_rfl
theorem mt4 (tx : ByteArray) (w : World) : (Go.method 335 170 (.agg #[.string tx]) "loop.example/g00020/impl.fits").run Tryz.prog w = .ok (161, (.agg #[.string tx])) w := by kernel_rfl
set_option maxRecDepth 20000 in
set_option maxHeartbeats 2000000 in
theorem iCond4 (tx : ByteArray) (tm : Int) (w : World) :
    Calls Tryz.prog 112 #[.agg #[.int .i64 4, .string tx, .int .i64 tm]] w fun e w' => e = .returned (.iface 170 (.agg #[.string tx])) ∧ w' = w.alloc (.cells #[.int .i64 4, .string tx, .int .i64 tm] 112) := by
  go_enter Tryz.func112, Tryz.ntmps112
  go_wp2
  go_ret
  exact ⟨rfl, rfl⟩
set_option maxRecDepth 20000 in
set_option maxHeartbeats 2000000 in
theorem iPlain4 (tx : ByteArray) (w : World) :
    Calls Tryz.prog 101 #[.iface 170 (.agg #[.string tx])] w fun e w' => e = .returned (.agg #[.int .i64 4, .string tx, .int .i64 0]) ∧ Below w.heap.size w w' := by
  have q4 := ta4t
  have q1 := ta4n1
  have q2 := ta4n2
  have q3 := ta4n3
  go_enter Tryz.func101, Tryz.ntmps101
  go_wp2
  refine bodyPost_ret (v := .agg #[.int .i64 4, .string tx, .int .i64 0]) ?_ rfl ⟨rfl, balCn (balCn (Below.refl _ _) _) _⟩
  exact results_cell_row Tryz.results101 _ _ w.heap.size _ _ _ _ rfl ((RowAt.new _ _ _).alloc _) Tryz.underlying112 rfl (by kernel_rfl)
set_option maxRecDepth 20000 in
set_option maxHeartbeats 2000000 in
theorem iCond0 (kd : Int) (tx : ByteArray) (tm : Int) (h1 : ¬ kd = 1) (h2 : ¬ kd = 2) (h3 : ¬ kd = 3) (h4 : ¬ kd = 4) (w : World) :
    Calls Tryz.prog 112 #[.agg #[.int .i64 kd, .string tx, .int .i64 tm]] w fun e w' => e = .returned .nilIface ∧ w' = w.alloc (.cells #[.int .i64 kd, .string tx, .int .i64 tm] 112) := by
  have b1 : (kd == 1) = false := beq_eq_false_iff_ne.2 h1
  have b4 : (kd == 4) = false := beq_eq_false_iff_ne.2 h4
  have b2 : (kd == 2) = false := beq_eq_false_iff_ne.2 h2
  have b3 : (kd == 3) = false := beq_eq_false_iff_ne.2 h3
  go_enter Tryz.func112, Tryz.ntmps112
  go_wp2
  go_ret
  exact ⟨rfl, rfl⟩
end Go.Proofs.YtokjfffcciddhaaGreatDoor
