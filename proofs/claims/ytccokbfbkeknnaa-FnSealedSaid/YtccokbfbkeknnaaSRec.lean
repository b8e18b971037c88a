import Derived.Test.YtccokbfbkeknnaaPutText
import Derived.Test.YtccokbfbkeknnaaSum
import Derived.Test.YtccokbfbkeknnaaRows1
import Derived.Lib.ConvBytes
namespace Go.Proofs.Ytccokbfbkeknnaa
open Go.RowKit
/-! Records. -/
/-- a sum in four bytes -/
def four (n : Int) : ByteArray := strOfNums [n / 16777216, n / 65536 % 256, n / 256 % 256, n % 256]
theorem four_size (n : Int) : (four n).size = 4 := by unfold four; rw [strOfNums_size]; rfl
/-- what stands ahead of a record's sum -/
def recT (key : ByteArray) (gone : Bool) (data : ByteArray) : ByteArray := ⟨#[231]⟩ ++ putText key ++ (if gone then ⟨#[1]⟩ else ⟨#[0]⟩) ++ putText data
def RecOk (key : ByteArray) (gone : Bool) (data : ByteArray) : Prop := 1 ≤ key.size ∧ key.size ≤ 200 ∧ (gone = true → data.size = 0) ∧ data.size ≤ 100000
instance (key : ByteArray) (gone : Bool) (data : ByteArray) : Decidable (RecOk key gone data) := inferInstanceAs (Decidable (_ ∧ _ ∧ (_ → _) ∧ _))
def recV (key : ByteArray) (gone : Bool) (data : ByteArray) : ByteArray := if RecOk key gone data then recT key gone data ++ four (sumOf (recT key gone data) 5) else ByteArray.empty
theorem putText_size (s : ByteArray) (h : s.size ≤ 100000) : (putText s).size ≤ 9 + s.size := by
  unfold putText; rw [if_neg (by omega), ByteArray.size_append]; have := putNum_size (s.size : Int); omega
theorem recT_size (key : ByteArray) (gone : Bool) (data : ByteArray) (hk : key.size ≤ 200) (hd : data.size ≤ 100000) : (recT key gone data).size ≤ 100220 := by
  unfold recT
  have h1 := putText_size key (by omega)
  have h2 := putText_size data hd
  have h3 : (if gone then (⟨#[1]⟩ : ByteArray) else ⟨#[0]⟩).size = 1 := by cases gone <;> rfl
  rw [ByteArray.size_append, ByteArray.size_append, ByteArray.size_append, h3]
  have : (⟨#[231]⟩ : ByteArray).size = 1 := rfl
  omega
set_option maxRecDepth 20000 in
set_option maxHeartbeats 1000000 in
theorem sFour (n : Int) (h0 : 0 ≤ n) (h1 : n ≤ 2147483647) (w : World) :
    Calls Try.prog 35 #[.int .i64 n] w fun e w' => e = .returned (.string (four n)) ∧ Below w.heap.size w w' := by
  have cv : (convert 22 9 (.slice (some ⟨w.heap.size, 0, none⟩) 4 4)).run Try.prog (w.alloc (.cells #[.int .u8 (n / 16777216), .int .u8 (n / 65536 % 256), .int .u8 (n / 256 % 256), .int .u8 (n % 256)] 5)) = .ok (.string (four n)) (w.alloc (.cells #[.int .u8 (n / 16777216), .int .u8 (n / 65536 % 256), .int .u8 (n / 256 % 256), .int .u8 (n % 256)] 5)) :=
    run_convert_bytes_arg (P := Try.prog) _ 22 5 Try.underlying22 Try.underlying5 w.heap.size 0 4 4 [n / 16777216, n / 65536 % 256, n / 256 % 256, n % 256] rfl (fun i hi => by
      have R := RowAt.new w 5 #[.int .u8 (n / 16777216), .int .u8 (n / 65536 % 256), .int .u8 (n / 256 % 256), .int .u8 (n % 256)]
      have hi4 : i < 4 := hi
      rcases (by omega : i = 0 ∨ i = 1 ∨ i = 2 ∨ i = 3) with rfl | rfl | rfl | rfl
      · exact R.cell 0
      · exact R.cell 1
      · exact R.cell 2
      · exact R.cell 3) 9 Try.underlying9
  go_enter Try.func35, Try.ntmps35
  go_wp2
  go_ret
  exact ⟨rfl, (Below.refl _ w).alloc (Nat.le_refl _) _⟩
theorem ba_empty (d : ByteArray) (h : d.size = 0) : d.toList.isEmpty = true := by
  rw [ByteArray.toList_eq, List.isEmpty_iff]; exact List.eq_nil_of_length_eq_zero (by simpa using h)
theorem ba_some (d : ByteArray) (h : d.size ≠ 0) : d.toList.isEmpty = false := by
  rw [ByteArray.toList_eq, List.isEmpty_eq_false_iff]; intro q; apply h; have := congrArg List.length q; simpa using this
end Go.Proofs.Ytccokbfbkeknnaa
