import Derived.Test.YtccokbfbkeknnaaDrawKeyB
import Derived.Lib.AppendZerosOnto
import Derived.OwnWalk
import Derived.Deep.OwnRows
namespace Go.Proofs.Ytccokbfbkeknnaa
open Go.RowKit
attribute [local go_sem ↓] Go.wp_at_zero Go.wp_at_succ
/-! DrawPutRecord: a key and data of few bytes. -/
def zs8 (N : Nat) : Array Value := madeCells #[.int .u8 0] N
theorem zs8_at (N i : Nat) (h : i < N) : (zs8 N)[i]? = some (.int .u8 0) := by
  unfold zs8 madeCells
  simp [h, Nat.mod_one]
theorem str_z (N : Nat) : (strOfNums (List.replicate N 0)).size = N := by rw [strOfNums_size]; simp
theorem mk8 (N : Nat) (h : N ≤ 1000) : ∀ X, (Instr.makeSlice 22 (.int .i64 (N : Nat)) (.int .i64 (N : Nat))).run Try.prog X = .ok (.slice (some ⟨X.heap.size, 0, none⟩) N N) (X.alloc (.cells (zs8 N) 5)) :=
  fun X => run_make_row' (P := Try.prog) 22 5 (.int .u8 0) 1 Try.underlying22 Try.info5 rfl .i64 .i64 N (by omega) (by omega) X
theorem conv_zs (X : World) (b N : Nat) (h : RowAt X b 5 (zs8 N)) : (convert 22 9 (.slice (some ⟨b, 0, none⟩) N N)).run Try.prog X = .ok (.string (strOfNums (List.replicate N 0))) X :=
  run_convert_bytes_arg (P := Try.prog) X 22 5 Try.underlying22 Try.underlying5 b 0 N N (List.replicate N 0) (by simp) (fun i hi => by
    have := h.cell i
    rw [Nat.zero_add, this, zs8_at N i hi]
    simp [hi, List.getD_eq_getElem?_getD]) 9 Try.underlying9
theorem conv_zz (z : ByteArray) {N0 : Nat} (hz : Hid (z = strOfNums (List.replicate N0 0))) (X : World) (b N : Nat) (h : RowAt X b 5 (zs8 N0)) (hN : N = N0 := by rfl) : (convert 22 9 (.slice (some ⟨b, 0, none⟩) N N)).run Try.prog X = .ok (.string z) X := by subst hN; rw [hz.out]; exact conv_zs X b N h
def recC (z : ByteArray) : Array Value := #[.string ⟨#[]⟩, .string ⟨#[231]⟩, .string z]
theorem recC_at (z : ByteArray) (hz : z.size ≤ 300) (k : Nat) (hk : k < 3) : ∃ t : ByteArray, (#[.string ⟨#[]⟩, .string ⟨#[231]⟩, .string z] : Array Value)[k]? = some (.string t) ∧ t.size ≤ 300 := by
  rcases (by omega : k = 0 ∨ k = 1 ∨ k = 2) with rfl | rfl | rfl
  · exact ⟨_, rfl, by decide⟩
  · exact ⟨_, rfl, by decide⟩
  · exact ⟨_, rfl, hz⟩
end Go.Proofs.Ytccokbfbkeknnaa
