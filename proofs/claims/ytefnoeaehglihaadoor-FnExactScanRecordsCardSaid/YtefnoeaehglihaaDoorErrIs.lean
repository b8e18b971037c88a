import Derived.Test.YtefnoeaehglihaaDoorIFrame
import Derived.LaidEql
import Derived.Stop.Asserts
import Derived.RowKitTokens
namespace Go.Proofs.YtefnoeaehglihaaDoor
open Go.RowKit Go.Extern.Stop Go.Stop Go.Extern
/-! errors.Is at the reader's two errors, and at none: walked as the library's worked rows are. -/
theorem Tryd.teT (v : Value) (w : World) : (Extern.ReflectliteType.typeOf #[.iface 119 v]).run Tryd.prog w = .ok (.iface 109 (.agg #[.pointer (some ⟨3, 119, none⟩)])) w := by kernel_rfl
theorem Tryd.teComp : (Tryd.prog.info? 119).map (·.comparable) = some true := by kernel_rfl
theorem Tryd.teSize : (Tryd.prog.info? 143).map (·.size) = some 1 := by kernel_rfl
theorem Tryd.teNoIs (v : Value) (xT : TypeId) (w : World) : (Instr.typeAssert (.iface 119 v) xT 111 true).run Tryd.prog w = .ok (.tuple #[.nilIface, .bool false]) w := run_typeAssert_lacksB Tryd.underlying111 (by kernel_rfl) (by kernel_rfl) v xT w
theorem Tryd.teNoU (v : Value) (xT : TypeId) (w : World) : (Instr.typeAssert (.iface 119 v) xT 114 true).run Tryd.prog w = .ok (.tuple #[.nilIface, .bool false]) w := run_typeAssert_lacksB Tryd.underlying114 (by kernel_rfl) (by kernel_rfl) v xT w
theorem Tryd.teNoV (v : Value) (xT : TypeId) (w : World) : (Instr.typeAssert (.iface 119 v) xT 116 true).run Tryd.prog w = .ok (.tuple #[.nilIface, .bool false]) w := run_typeAssert_lacksB Tryd.underlying116 (by kernel_rfl) (by kernel_rfl) v xT w
theorem Tryd.teCall (w : World) : (callFunc 85 #[.agg #[.pointer (some ⟨3, 119, none⟩)]]).run Tryd.prog w = .ok (.value (.bool true)) w := by kernel_rfl
theorem Tryd.teM (v : Value) (w : World) : (Go.method 255 109 v "Comparable").run Tryd.prog w = .ok (85, v) w := by kernel_rfl
set_option maxRecDepth 20000 in
set_option maxHeartbeats 2000000 in
theorem errIs_same (a : Addr) (w : World) :
    Calls Tryd.prog 53 #[errV a, errV a] w fun e w' => e = .returned (.bool true) ∧ w' = w := by
  unfold errV
  obtain ⟨i, hi, hcmp⟩ := Option.map_eq_some_iff.1 Tryd.teComp
  obtain ⟨j, hj, hjs⟩ := Option.map_eq_some_iff.1 Tryd.teSize
  have h8 := @run_callFunc_extern Tryd.prog 58 _ Extern.ReflectliteType.typeOf Tryd.func58 (by kernel_rfl) (by kernel_rfl) (by kernel_rfl) (by kernel_rfl)
  have h32 := Tryd.teCall
  have tT := Tryd.teT
  have mR := Tryd.teM
  have heq := run_eql_iface_ptr_same (P := Tryd.prog) w a Tryd.underlying58 Tryd.underlying119 hi hcmp hj
  go_enter Tryd.func53, Tryd.ntmps53
  go_wp2
  refine wp_loop_rounds 1 ?_
  rw [rounds_succ]
  go_wp2
  go_ret
  exact ⟨rfl, rfl⟩
set_option maxRecDepth 20000 in
set_option maxHeartbeats 2000000 in
theorem errIs_other (a b : Addr) (w : World) (hne : a ≠ b) (ha : ∃ c t, w.heap[a.block]? = some (.cells c t (0, 0))) (hb : ∃ c t, w.heap[b.block]? = some (.cells c t (0, 0))) :
    Calls Tryd.prog 53 #[errV a, errV b] w fun e w' => e = .returned (.bool false) ∧ w' = w := by
  obtain ⟨ca, ta, ha⟩ := ha
  obtain ⟨cb, tb, hb⟩ := hb
  unfold errV
  obtain ⟨i, hi, hcmp⟩ := Option.map_eq_some_iff.1 Tryd.teComp
  obtain ⟨j, hj, hjs⟩ := Option.map_eq_some_iff.1 Tryd.teSize
  have h8 := @run_callFunc_extern Tryd.prog 58 _ Extern.ReflectliteType.typeOf Tryd.func58 (by kernel_rfl) (by kernel_rfl) (by kernel_rfl) (by kernel_rfl)
  have h32 := Tryd.teCall
  have tT := Tryd.teT
  have mR := Tryd.teM
  have nE := Tryd.teNoIs
  have uE := Tryd.teNoU
  have vE := Tryd.teNoV
  have heq := run_eql_iface_ptr_other (P := Tryd.prog) w Tryd.underlying58 Tryd.underlying119 hi hcmp hj (by rw [hjs]; decide) hne ha hb
  go_enter Tryd.func53, Tryd.ntmps53
  go_wp2
  refine wp_loop_rounds 1 ?_
  rw [rounds_succ]
  go_wp2
  go_ret
  exact ⟨rfl, rfl⟩
set_option maxRecDepth 20000 in
set_option maxHeartbeats 2000000 in
theorem errIs_nil (b : Addr) (w : World) :
    Calls Tryd.prog 53 #[.nilIface, errV b] w fun e w' => e = .returned (.bool false) ∧ w' = w := by
  unfold errV
  have hn := run_eql_iface_nil_left (P := Tryd.prog) w 119 (.pointer (some b)) Tryd.underlying58
  go_enter Tryd.func53, Tryd.ntmps53
  go_wp2
  go_ret
  exact ⟨rfl, rfl⟩
end Go.Proofs.YtefnoeaehglihaaDoor
