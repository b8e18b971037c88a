import Derived.Test.YtokjfffcciddhaaGreatDoorIPol5
import Derived.Defers
import Derived.Recover
import Derived.Laws.Pointers
namespace Go.Proofs.YtokjfffcciddhaaGreatDoor
open Go.RowKit
/-! The program's caught: what is thrown is the answer. -/
theorem taF (v : Value) (w : World) : (Instr.typeAssert (.iface 94 v) 20 94 false).run Tryz.prog w = .ok v w := by kernel_rfl
set_option maxRecDepth 20000 in
set_option maxHeartbeats 2000000 in
theorem catch_idle (p : Addr) (w : World) :
    CallsD Tryz.prog 67 #[.pointer (some p)] .returning w fun e u' w' => e = .returned (.tuple #[]) ∧ u' = .returning ∧ w' = w := by
  refine callsD_of_wpS Tryz.func67 rfl fun c₀ cs hu => ?_
  apply wpS_seq
  apply wpS_region
  simp [wpOpsS, go_sem, recoverD, hu, Tryz.ntmps67, Exit.thenS]
  refine wpS_of_wp ?_
  have e1 : (#[Value.pointer (some p)] ++ ((Array.replicate 6 undef).setIfInBounds 1 Value.nilIface).setIfInBounds 0 Value.nilIface : Array Value) = #[.pointer (some p), .nilIface, .nilIface, undef, undef, undef, undef] := rfl
  rw [e1]
  go_wp2
  exact ⟨rfl, .returning, by cases c₀; simp_all, .tuple #[], by simp [results, Tryz.results67, go_sem], rfl, rfl, rfl⟩
set_option maxRecDepth 20000 in
set_option maxHeartbeats 2000000 in
theorem catch_panicking (b : Nat) (c l : Int) (older : List PanicEntry) (w : World) (h0 : RowAt w b 94 #[.int .i64 0, .int .i64 0]) :
    CallsD Tryz.prog 67 #[.pointer (some ⟨b, 0, none⟩)] (.panicking ({ v := .iface 94 (.agg #[.int .i64 c, .int .i64 l]), recovered := false } :: older)) w fun e u' w' =>
      e = .returned (.tuple #[]) ∧ u' = .panicking ({ v := .iface 94 (.agg #[.int .i64 c, .int .i64 l]), recovered := true } :: older) ∧ w' = (w.setCell ⟨b, 0, none⟩ (.int .i64 c)).setCell ⟨b, 1, none⟩ (.int .i64 l) := by
  refine callsD_of_wpS Tryz.func67 rfl fun c₀ cs hu => ?_
  apply wpS_seq
  apply wpS_region
  simp [wpOpsS, go_sem, recoverD, hu, Tryz.ntmps67, Exit.thenS]
  refine wpS_of_wp ?_
  have hta := taF
  have c0 := h0.cell 0
  have c1 := h0.cell 1
  have f0 := h0.free 0
  have f1 := (h0.set 0 (.int .i64 c)).free 1
  have e1 : (#[Value.pointer (some ⟨b, 0, none⟩)] ++ ((Array.replicate 6 undef).setIfInBounds 1 (Value.iface 94 (Value.agg #[Value.int IntKind.i64 c, Value.int IntKind.i64 l]))).setIfInBounds 0 (Value.iface 94 (Value.agg #[Value.int IntKind.i64 c, Value.int IntKind.i64 l])) : Array Value) = #[.pointer (some ⟨b, 0, none⟩), Value.iface 94 (Value.agg #[Value.int IntKind.i64 c, Value.int IntKind.i64 l]), Value.iface 94 (Value.agg #[Value.int IntKind.i64 c, Value.int IntKind.i64 l]), undef, undef, undef, undef] := rfl
  rw [e1]
  go_wp2
  exact ⟨rfl, _, rfl, .tuple #[], by simp [results, Tryz.results67, go_sem], rfl, rfl, rfl⟩
end Go.Proofs.YtokjfffcciddhaaGreatDoor
