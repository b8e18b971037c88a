import Derived.Test.YtmjolkagkeonfaaGreatDoorRIPol5
import Derived.Defers
import Derived.Recover
import Derived.Laws.Pointers
namespace Go.Proofs.YtmjolkagkeonfaaGreatDoorR
open Go.RowKit
/-! The program's caught: what is thrown is the answer. -/
theorem taF (v : Value) (w : World) : (Instr.typeAssert (.iface 58 v) 20 58 false).run Tryz.prog w = .ok v w := by kernel_rfl
set_option maxRecDepth 20000 in
set_option maxHeartbeats 2000000 in
theorem catch_idle (p : Addr) (w : World) :
    CallsD Tryz.prog 46 #[.pointer (some p)] .returning w fun e u' w' => e = .returned (.tuple #[]) ∧ u' = .returning ∧ w' = w := by
  refine callsD_of_wpS Tryz.func46 rfl fun c₀ cs hu => ?_
  apply wpS_seq
  apply wpS_region
  simp [wpOpsS, go_sem, recoverD, hu, Tryz.ntmps46, Exit.thenS]
  refine wpS_of_wp ?_
  have e1 : (#[Value.pointer (some p)] ++ ((Array.replicate 6 undef).setIfInBounds 1 Value.nilIface).setIfInBounds 0 Value.nilIface : Array Value) = #[.pointer (some p), .nilIface, .nilIface, undef, undef, undef, undef] := rfl
  rw [e1]
  go_wp2
  exact ⟨rfl, .returning, by cases c₀; simp_all, .tuple #[], by simp [results, Tryz.results46, go_sem], rfl, rfl, rfl⟩
set_option maxRecDepth 20000 in
set_option maxHeartbeats 2000000 in
theorem catch_panicking (b : Nat) (c l : Int) (older : List PanicEntry) (w : World) (h0 : RowAt w b 58 #[.int .i64 0, .int .i64 0]) :
    CallsD Tryz.prog 46 #[.pointer (some ⟨b, 0, none⟩)] (.panicking ({ v := .iface 58 (.agg #[.int .i64 c, .int .i64 l]), recovered := false } :: older)) w fun e u' w' =>
      e = .returned (.tuple #[]) ∧ u' = .panicking ({ v := .iface 58 (.agg #[.int .i64 c, .int .i64 l]), recovered := true } :: older) ∧ w' = (w.setCell ⟨b, 0, none⟩ (.int .i64 c)).setCell ⟨b, 1, none⟩ (.int .i64 l) := by
  refine callsD_of_wpS Tryz.func46 rfl fun c₀ cs hu => ?_
  apply wpS_seq
  apply wpS_region
  simp [wpOpsS, go_sem, recoverD, hu, Tryz.ntmps46, Exit.thenS]
  refine wpS_of_wp ?_
  have hta := taF
  have c0 := h0.cell 0
  have c1 := h0.cell 1
  have f0 := h0.free 0
  have f1 := (h0.set 0 (.int .i64 c)).free 1
  have e1 : (#[Value.pointer (some ⟨b, 0, none⟩)] ++ ((Array.replicate 6 undef).setIfInBounds 1 (Value.iface 58 (Value.agg #[Value.int IntKind.i64 c, Value.int IntKind.i64 l]))).setIfInBounds 0 (Value.iface 58 (Value.agg #[Value.int IntKind.i64 c, Value.int IntKind.i64 l])) : Array Value) = #[.pointer (some ⟨b, 0, none⟩), Value.iface 58 (Value.agg #[Value.int IntKind.i64 c, Value.int IntKind.i64 l]), Value.iface 58 (Value.agg #[Value.int IntKind.i64 c, Value.int IntKind.i64 l]), undef, undef, undef, undef] := rfl
  rw [e1]
  go_wp2
  exact ⟨rfl, _, rfl, .tuple #[], by simp [results, Tryz.results46, go_sem], rfl, rfl, rfl⟩
set_option maxRecDepth 20000 in
set_option maxHeartbeats 4000000 in
theorem iCaught (b : Nat) (a : Option Addr) (m cap : Nat) (R : Nat → St) (hm : m ≤ 1048576) (hs : ∀ k, k < m → StB (R k) 1048576) (w : World) (hbl : b < w.heap.size) (hb : w.cell? ⟨b, 0, none⟩ = some (.slice a m cap)) (h : Sts w a m cap R) :
    Calls Tryz.prog 25 #[.func (.func 26) #[] #[.pointer (some ⟨b, 0, none⟩)]] w fun e w' => (∃ c l : Int, e = .returned (.agg #[.int .i64 c, .int .i64 l]) ∧ (c = 0 ↔ plP m R)) ∧ Below w.heap.size w w' := by
  have hmf : ∀ (fn : Fn) (first cap : Array Value) (w : World), (Instr.makeFunc fn first cap).run Tryz.prog w = .ok (.func fn first cap) w := fun _ _ _ _ => rfl
  obtain ⟨W0, hW0⟩ : ∃ W, W = w.alloc (.cells #[.int .i64 0, .int .i64 0] 58) := ⟨_, rfl⟩
  have B0 : Hid (Below w.heap.size w W0) := by rw [hW0]; exact balCn (Below.refl _ _) _
  have R0 : Hid (RowAt W0 w.heap.size 58 #[.int .i64 0, .int .i64 0]) := by rw [hW0]; exact RowAt.new _ _ _
  have K := hid (iClo b a m cap R hm hs W0 ((B0.out.cell (p := ⟨b, 0, none⟩) hbl).trans hb) (h.below B0.out))
  clear h hs hb
  go_enter_defers Tryz.func25, Tryz.ntmps25
  go_wp2_with fail
  rw [← hW0]
  clear hW0
  refine K.out.mono ?_
  rintro e w2 ⟨(⟨hp, rfl⟩ | ⟨hp, c, l, hc0, rfl⟩), hb2⟩
  · have HP := hid hp
    have R2 := hid (R0.out.below hb2 R0.out.lt)
    have B2 := hid (B0.out.trans (hb2.mono B0.out.size))
    have c0 := R2.out.cell 0
    have c1 := R2.out.cell 1
    have f0 := R2.out.free 0
    have f1 := (R2.out.set 0 (.int .i64 0)).free 1
    clear hp hb2 K
    go_wp2
    refine leaves_cons (f := 46) (args := #[.pointer (some ⟨w.heap.size, 0, none⟩)]) (by simp) (by simp [go_sem]) ?_
    refine (catch_idle _ _).mono ?_
    rintro e u' w'' ⟨rfl, rfl, rfl⟩
    have R3 : RowAt ((w2.setCell ⟨w.heap.size, 0, none⟩ (.int .i64 0)).setCell ⟨w.heap.size, 1, none⟩ (.int .i64 0)) w.heap.size 58 #[.int .i64 0, .int .i64 0] := (R2.out.set 0 (.int .i64 0)).set 1 (.int .i64 0)
    refine ⟨.agg #[.int .i64 0, .int .i64 0], results_cell_row Tryz.results25 _ _ w.heap.size _ _ _ _ rfl R3 Tryz.underlying58 rfl (by kernel_rfl), ⟨0, 0, rfl, fun _ => HP.out, fun _ => rfl⟩, (B2.out.setCell (Nat.le_refl _) _).setCell (Nat.le_refl _) _⟩
  · have HP := hid hp
    have R2 := hid (R0.out.below hb2 R0.out.lt)
    have B2 := hid (B0.out.trans (hb2.mono B0.out.size))
    clear hp hb2 K
    go_wp2
    refine leaves_cons (f := 46) (args := #[.pointer (some ⟨w.heap.size, 0, none⟩)]) (by simp) (by simp [go_sem]) ?_
    refine (catch_panicking w.heap.size c l [] w2 R2.out).mono ?_
    rintro e u' w'' ⟨rfl, rfl, rfl⟩
    have R3 : RowAt ((w2.setCell ⟨w.heap.size, 0, none⟩ (.int .i64 c)).setCell ⟨w.heap.size, 1, none⟩ (.int .i64 l)) w.heap.size 58 #[.int .i64 c, .int .i64 l] := (R2.out.set 0 (.int .i64 c)).set 1 (.int .i64 l)
    refine ⟨.agg #[.int .i64 c, .int .i64 l], results_cell_row Tryz.results25 _ _ w.heap.size _ _ _ _ rfl R3 Tryz.underlying58 rfl (by kernel_rfl), ⟨c, l, rfl, fun hh => absurd hh hc0, fun hh => absurd hh HP.out⟩, (B2.out.setCell (Nat.le_refl _) _).setCell (Nat.le_refl _) _⟩
end Go.Proofs.YtmjolkagkeonfaaGreatDoorR
