import Derived.Test.YtmjolkagkeonfaaGreatDoorRRows1
import Derived.Test.YtmjolkagkeonfaaGreatDoorRFRow
import Derived.Test.YtmjolkagkeonfaaGreatDoorRInts
import Derived.Lib.ConvBytes
import Derived.Deep.RegionHeld3
namespace Go.Proofs.YtmjolkagkeonfaaGreatDoorR
open Go.RowKit
theorem bal9 {w w' : World} (h : Below w.heap.size w w') (o : Obj) : Below w.heap.size w (w'.alloc o) := h.alloc h.size o
/-- the digits of a number ahead of a text -/
def digs : Nat → Nat → ByteArray → ByteArray
  | 0, _, s => s
  | f + 1, k, s => if k = 0 then s else digs f (k / 10) (strOfNums [((48 + k % 10 : Nat) : Int)] ++ s)
theorem digs_zero (f : Nat) (s : ByteArray) : digs f 0 s = s := by cases f <;> simp [digs]
/-- a mark -/
def markB (k : Nat) : ByteArray := ⟨#[109]⟩ ++ digs 20 k ⟨#[]⟩
theorem conv1 (W : World) (d : Int) : (convert 22 9 (.slice (some ⟨W.heap.size, 0, none⟩) 1 1)).run Tryz.prog (W.alloc (.cells #[.int .u8 d] 5)) = .ok (.string (strOfNums [d])) (W.alloc (.cells #[.int .u8 d] 5)) :=
  run_convert_bytes_arg (P := Tryz.prog) _ 22 5 Tryz.underlying22 Tryz.underlying5 W.heap.size 0 1 1 [d] rfl (fun i hi => by
    have e : i = 0 := by omega
    subst e
    exact (RowAt.new W 5 #[.int .u8 d]).cell 0) 9 Tryz.underlying9
set_option maxRecDepth 20000 in
set_option maxHeartbeats 2000000 in
theorem markT (k0 : Nat) (h1 : 1 ≤ k0) (hk : k0 ≤ 1073741824) (w : World) :
    Calls Tryz.prog 77 #[.int .i64 k0] w fun e w' => e = .returned (.string (markB k0)) ∧ Below w.heap.size w w' := by
  have d0 : ¬ (k0 : Int) ≤ 0 := by omega
  go_enter Tryz.func77, Tryz.ntmps77
  go_wp2_with fail
  go_loopw [0, 3] (fun x y wr => ∃ (f k : Nat) (s : ByteArray), k < 10 ^ f ∧ s.size + f ≤ 20 ∧ k ≤ 1073741824 ∧ x = .int .i64 k ∧ y = .string s ∧ digs f k s = digs 20 k0 ⟨#[]⟩ ∧ Below w.heap.size w wr) (fun x _ _ => (intOf x).toNat)
  case atStart => exact ⟨20, k0, ⟨#[]⟩, by omega, Nat.le_refl _, hk, rfl, rfl, rfl, Below.refl _ _⟩
  case round =>
    obtain ⟨f, k, s, hf, hsf, hkb, rfl, rfl, hd, hb⟩ := hrel
    have HD := hid hd
    have HB := hid hb
    clear hd hb
    by_cases hlt : 0 < k
    · have hlt' : (0 : Int) < (k : Int) := by omega
      obtain ⟨f', rfl⟩ : ∃ f', f = f' + 1 := ⟨f - 1, by cases f with | zero => simp at hf; omega | succ n => rfl⟩
      obtain ⟨d, hdd⟩ : ∃ d, d = 48 + k % 10 := ⟨_, rfl⟩
      have e1 : (k : Int) % 10 = ((k % 10 : Nat) : Int) := by simp
      have e2 : IntKind.u8.wrap (48 + (k : Int) % 10) = (d : Int) := by rw [IntKind.wrap_u8']; omega
      have e2' : IntKind.u8.wrap (48 + (k : Int).tmod 10) = (d : Int) := by rw [Int.tmod_eq_emod_of_nonneg (by omega)]; exact e2
      have hcv := fun W => conv1 W (d : Int)
      have ND : Hid (digs f' (k / 10) (strOfNums [((d : Nat) : Int)] ++ s) = digs 20 k0 ⟨#[]⟩) := by
        have h9 := HD.out
        unfold digs at h9
        rw [if_neg (by omega), ← hdd] at h9
        exact h9
      have hf' : k / 10 < 10 ^ f' := by rw [Nat.pow_succ] at hf; omega
      have hz1 : (strOfNums [(d : Int)]).size = 1 := strOfNums_size _
      have hz2 : (strOfNums [(d : Int)] ++ s).size + f' ≤ 20 := by rw [ByteArray.size_append, hz1]; omega
      have hz3 : Hid ((strOfNums [(d : Int)] ++ s).size + f' ≤ 20) := hz2
      clear hdd e1 hz2
      go_wp2
      go_roundw
      case rel => exact ⟨f', k / 10, strOfNums [((d : Nat) : Int)] ++ s, hf', hz3.out, by omega, by go_num, rfl, ND.out, bal9 HB.out _⟩
      case measure => simp [intOf]; omega
    · have hke : k = 0 := by omega
      have ND : Hid (s = digs 20 k0 ⟨#[]⟩) := by have h9 := HD.out; rw [hke, digs_zero] at h9; exact h9
      have hlt' : ¬ (0 : Int) < (k : Int) := by omega
      clear hke
      go_wp2
      go_ret
      exact ⟨by rw [markB, ← ND.out]; rfl, HB.out⟩
end Go.Proofs.YtmjolkagkeonfaaGreatDoorR
