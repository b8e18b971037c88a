import Derived.Test.YtmjolkagkeonfaaGreatDoorRFRow
import Derived.Test.YtmjolkagkeonfaaGreatDoorRInts
import Derived.Deep.RegionHeld3
namespace Go.Proofs.YtmjolkagkeonfaaGreatDoorR
open Go.RowKit
theorem made_row (w : World) (t : TypeId) (zf : Nat → Value) (n k : Nat) (hk : 0 < k) : FRow (w.alloc (.cells (madeCells ((List.range k).map zf).toArray (n * k)) t)) w.heap.size t (n * k) (fun p => zf (p % k)) :=
  ⟨_, RowAt.new w _ _, by simp [madeCells], fun p hp => by
    have h2 : p % k < k := Nat.mod_lt _ hk
    simp [madeCells, hp, h2]⟩
/-! Slices of texts: what the laws do with them. -/
def Strs (w : World) (a : Option Addr) (len cap : Nat) (ts : Nat → ByteArray) : Prop :=
  len ≤ cap ∧ (len = 0 ∨ ∃ b off, a = some ⟨b, off, none⟩ ∧ b < w.heap.size ∧ ∀ i, i < len → w.cell? ⟨b, off + i, none⟩ = some (.string (ts i)))
theorem Strs.below {w w' : World} {a : Option Addr} {len cap : Nat} {ts : Nat → ByteArray} (h : Strs w a len cap ts) (hb : Below w.heap.size w w') : Strs w' a len cap ts := by
  refine ⟨h.1, ?_⟩
  rcases h.2 with h0 | ⟨b, off, rfl, h1, h2⟩
  · exact Or.inl h0
  · exact Or.inr ⟨b, off, rfl, Nat.lt_of_lt_of_le h1 hb.size, fun i hi => (hb.cell (p := ⟨b, off + i, none⟩) h1).trans (h2 i hi)⟩
theorem FRow.strs {w : World} {b n : Nat} {t : TypeId} {ts : Nat → ByteArray} (h : FRow w b t n (fun i => .string (ts i))) : Strs w (some ⟨b, 0, none⟩) n n ts :=
  ⟨Nat.le_refl _, Or.inr ⟨b, 0, rfl, h.lt, fun i hi => by rw [Nat.zero_add]; exact h.cell hi⟩⟩
theorem Tryz.infoS' : (Tryz.prog.info? 9).map (fun i => (i.zero, i.size, i.bytes)) = some (some (.string ⟨#[]⟩), 1, 16) := by kernel_rfl
theorem mkS' (w : World) (n : Nat) (hn : n ≤ 1048576) : (Instr.makeSlice 42 (.int .i64 n) (.int .i64 n)).run Tryz.prog w = .ok (.slice (some ⟨w.heap.size, 0, none⟩) n n) (w.alloc (.cells (madeCells #[.string ⟨#[]⟩] n) 9)) := by
  obtain ⟨i0, hi, hz0, hz1, hz2⟩ := info_parts Tryz.infoS'
  have := run_make (P := Tryz.prog) w 42 9 i0 _ Tryz.underlying42 hi hz0 .i64 .i64 n n (by omega) (Int.le_refl _) (by rw [hz2]; omega) (by omega)
  rw [this, hz1]
  simp only [Int.toNat_natCast, Value.cells, Nat.mul_one]
set_option maxRecDepth 20000 in
set_option maxHeartbeats 2000000 in
theorem eqStr (a : Option Addr) (len cap : Nat) (a' : Option Addr) (cap' : Nat) (ts ts' : Nat → ByteArray) (hl : len ≤ 1048576) (he : ∀ i, i < len → ts i = ts' i) (w : World) (h : Strs w a len cap ts) (h' : Strs w a' len cap' ts') :
    Calls Tryz.prog 75 #[.slice a len cap, .slice a' len cap'] w fun e w' => e = .returned (.bool true) ∧ ∃ k, w' = w.drewN k := by
  have HH := hid h
  have HH' := hid h'
  have HE := hid he
  have dn : ((len : Int) != (len : Int)) = false := by simp
  clear h h' he
  go_enter Tryz.func75, Tryz.ntmps75
  go_wp2_with fail
  go_loopw [5] (fun y wr => ∃ (k q : Nat), k ≤ len ∧ y = .int .i64 k ∧ wr = w.drewN q) (fun y _ => len - (intOf y).toNat)
  case atStart => exact ⟨0, 0, Nat.zero_le _, rfl, rfl⟩
  case round =>
    obtain ⟨k, q, hk, rfl, rfl⟩ := hrel
    by_cases hlt : k < len
    · have hlt' : (k : Int) < (len : Int) := by omega
      have k0 : (0 : Int) ≤ (k : Int) := by omega
      rcases HH.out.2 with h00 | ⟨b, off, rfl, hbl, hc⟩
      · omega
      rcases HH'.out.2 with h00 | ⟨b', off', rfl, hbl', hc'⟩
      · omega
      have c1 : w.cell? ⟨b, off + k, none⟩ = some (.string (ts k)) := hc k hlt
      have c2 : w.cell? ⟨b', off' + k, none⟩ = some (.string (ts k)) := by rw [HE.out k hlt]; exact hc' k hlt
      obtain ⟨t, ht⟩ : ∃ t, t = ts k := ⟨_, rfl⟩
      rw [← ht] at c1 c2
      clear hc hc' ht
      go_wp2_with fail
      go_quiet (fail)
      go_wp2
      -- @cut1
      go_roundw
      case rel => exact ⟨k + 1, _, by omega, by go_num, rfl⟩
      case measure => simp [intOf]; omega
    · have hlt' : ¬ (k : Int) < (len : Int) := by omega
      go_wp2
      go_ret
      exact ⟨rfl, q, rfl⟩
/-- a slice of texts as the row gives it -/
def IsStrs (w : World) (a : Option Addr) (len cap : Nat) (ts : Nat → ByteArray) : Prop :=
  (a = none ∧ len = 0 ∧ cap = 0) ∨ ∃ x : Addr, a = some x ∧ len ≤ cap ∧ cap ≤ maxLen ∧ ∀ i, i < len → w.cell? (x.add i) = some (.string (ts i)) ∧ (ts i).size ≤ maxLen
theorem IsStrs.len {w : World} {a : Option Addr} {len cap : Nat} {ts : Nat → ByteArray} (h : IsStrs w a len cap ts) : len ≤ 9223372036854775807 ∧ ∀ i, i < len → (ts i).size ≤ 9223372036854775807 := by
  rcases h with ⟨_, rfl, _⟩ | ⟨x, _, h1, h2, h3⟩
  · exact ⟨by omega, fun i hi => absurd hi (Nat.not_lt_zero _)⟩
  · unfold maxLen at h2 h3; exact ⟨by omega, fun i hi => by have := (h3 i hi).2; omega⟩
theorem Strs.of_is {w : World} {a : Option Addr} {len cap : Nat} {ts : Nat → ByteArray} (h : IsStrs w a len cap ts) : Strs w a len cap ts := by
  rcases h with ⟨rfl, rfl, rfl⟩ | ⟨x, rfl, h1, h2, hcell⟩
  · exact ⟨Nat.le_refl _, Or.inl rfl⟩
  · refine ⟨h1, ?_⟩
    by_cases h0 : len = 0
    · exact Or.inl h0
    · right
      obtain ⟨b, off, spot⟩ := x
      have hc := (hcell 0 (by omega)).1
      have hspot : spot = none := by simpa [Addr.add] using World.cell?_spot hc
      subst hspot
      have hadd : ∀ i, (⟨b, off, none⟩ : Addr).add i = ⟨b, off + i, none⟩ := by intro i; unfold Addr.add; split <;> simp_all
      refine ⟨b, off, rfl, ?_, fun i hi => ?_⟩
      · have := World.block_lt_of_cell? w _ hc; rw [hadd] at this; exact this
      · have := (hcell i hi).1
        rw [hadd] at this
        exact this
end Go.Proofs.YtmjolkagkeonfaaGreatDoorR
