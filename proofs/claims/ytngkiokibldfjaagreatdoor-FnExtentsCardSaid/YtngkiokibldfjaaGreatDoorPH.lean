import Derived.Test.YtngkiokibldfjaaGreatDoorPG
import Derived.Test.YtngkiokibldfjaaGreatDoorPE
import Derived.Deep.QuietTactic
namespace Go.Proofs.YtngkiokibldfjaaGreatDoor
open Go.RowKit
/-! The program's span.of, frame.summed, frame.sum. -/
set_option maxRecDepth 20000 in
set_option maxHeartbeats 1000000 in
theorem iOf (s : ByteArray) (a n : Nat) (hs : s.size ≤ 1048576) (h : a + n ≤ s.size) (w : World) :
    Calls Tryz.prog 74 #[.agg #[.int .i64 (a : Nat), .int .i64 (n : Nat)], .string s] w fun e w' => e = .returned (.string (s.extract a (a + n))) ∧ Below w.heap.size w w' := by
  have hwr : IntKind.i64.wrap ((a : Int) + (n : Int)) = (a : Int) + (n : Int) := by simp [IntKind.wrap, IntKind.bits, IntKind.signed]; omega
  have hsl : ∀ wx, (Instr.slice 9 (.string s) (some (.int .i64 (a : Int))) (some (.int .i64 ((a : Int) + (n : Int)))) none).run Tryz.prog wx = .ok (.string (s.extract a (a + n))) wx := by
    intro wx
    rw [run_slice_string_if _ _ _ _ _ _ _ Tryz.underlying9, if_pos (by omega), if_pos (by omega)]
    rw [show ((a : Int) + (n : Int)).toNat = a + n by omega, Int.toNat_natCast]
  go_enter Tryz.func74, Tryz.ntmps74
  go_wp2
  go_ret
  exact ⟨rfl, (Below.refl _ _).alloc (Nat.le_refl _) _⟩
set_option maxRecDepth 20000 in
set_option maxHeartbeats 1000000 in
theorem iSummed (f : Fr) (h : f.at' + 4 ≤ f.next) (hb : f.next ≤ 1048576) (w : World) :
    Calls Tryz.prog 112 #[frmV f] w fun e w' => e = .returned (.agg #[.int .i64 (f.at' : Nat), .int .i64 (f.next - 4 - f.at' : Nat)]) ∧ Below w.heap.size w w' := by
  obtain ⟨ka, ks, g, ba, bs, a, n⟩ := f
  simp only at h hb ⊢
  unfold frmV
  simp only
  have w1 : IntKind.i64.wrap ((n : Int) - 4) = (n : Int) - 4 := by simp [IntKind.wrap, IntKind.bits, IntKind.signed]; omega
  have w2 : IntKind.i64.wrap ((n : Int) - 4 - (a : Int)) = (n : Int) - 4 - (a : Int) := by simp [IntKind.wrap, IntKind.bits, IntKind.signed]; omega
  have E : Hid (((n - 4 - a : Nat) : Int) = (n : Int) - 4 - (a : Int)) := by show _ = _; omega
  rw [E.out]
  go_enter Tryz.func112, Tryz.ntmps112
  go_wp2
  refine bodyPost_ret (v := .agg #[.int .i64 (a : Nat), .int .i64 ((n : Int) - 4 - (a : Int))]) (by simp [results, Tryz.results112, go_sem]) rfl ⟨rfl, ?_⟩
  repeat (first | with_reducible exact (Below.refl w.heap.size w) | with_reducible refine Below.drew ?_ | with_reducible refine Below.setCell ?_ (by simp) _ | with_reducible refine Below.setCell ?_ (by simp; omega) _ | with_reducible refine Below.alloc ?_ (by first | omega | (simp; done) | (simp; omega)) _)
def p4 (s : ByteArray) (k : Nat) : Nat → Nat
  | 0 => 0
  | j + 1 => p4 s k j * 256 + byteAt s (k + j)
theorem p4_lt (s : ByteArray) (k : Nat) : ∀ j, p4 s k j < 256 ^ j
  | 0 => by simp [p4]
  | j + 1 => by have := p4_lt s k j; have := byteAt_lt s (k + j); simp only [p4, Nat.pow_succ]; omega
theorem p4_four (s : ByteArray) (k : Nat) : ((p4 s k 4 : Nat) : Int) = sum4 s k := by simp [p4, sum4]
theorem or_byte (x b : Nat) (hx : x < 4294967296) (hb : b < 256) : bits .or .i64 (wrap64 ((x : Int) * 256)) (wrap64 (b : Int)) = ((x * 256 + b : Nat) : Int) := by
  rw [IntWalk.wrap64_in _ ⟨by omega, by omega⟩, IntWalk.wrap64_in _ ⟨by omega, by omega⟩, show (x : Int) * 256 = ((x * 256 : Nat) : Int) by omega]
  show IntKind.i64.wrap ((BitVec.ofInt 64 ((x * 256 : Nat) : Int) ||| BitVec.ofInt 64 (b : Int)).toNat : Int) = _
  rw [BitVec.toNat_or, ofInt_u64 _ (by omega), ofInt_u64 b (by omega), nat_join 8 _ _ (by omega) (by omega)]
  simp [IntKind.wrap, IntKind.bits, IntKind.signed]; omega
set_option maxRecDepth 20000 in
set_option maxHeartbeats 1000000 in
theorem iSum (f : Fr) (s : ByteArray) (h : 4 ≤ f.next) (hb : f.next ≤ s.size) (hs : s.size ≤ 1048576) (w : World) :
    Calls Tryz.prog 113 #[frmV f, .string s] w fun e w' => e = .returned (.int .i64 (sum4 s (f.next - 4))) ∧ Below w.heap.size w w' := by
  obtain ⟨ka, ks, g, ba, bs, a, n⟩ := f
  simp only at h hb ⊢
  unfold frmV
  simp only
  obtain ⟨k, hk⟩ : ∃ k, k = n - 4 := ⟨_, rfl⟩
  have w1 : IntKind.i64.wrap ((n : Int) - 4) = (k : Int) := by simp [IntKind.wrap, IntKind.bits, IntKind.signed]; omega
  have w1' : (n : Int) - 4 = (k : Int) := by omega
  rw [← hk, ← p4_four]
  have HK : Hid (n = k + 4) := by show _ = _; omega
  clear hk
  go_enter Tryz.func113, Tryz.ntmps113
  go_wp2
  go_loopw [5, 6] (fun x i wr => ∃ j : Nat, j ≤ 4 ∧ x = .int .i64 (p4 s k j : Nat) ∧ i = .int .i64 ((k : Int) + (j : Int)) ∧ wr = w.alloc (.cells #[.int .i64 (ka : Nat), .int .i64 (ks : Nat), .bool g, .int .i64 (ba : Nat), .int .i64 (bs : Nat), .int .i64 (a : Nat), .int .i64 (n : Nat)] 110))
    (fun _ i _ => n - (intOf i).toNat)
  case atStart => exact ⟨0, by omega, rfl, by simp, rfl⟩
  case round =>
    obtain ⟨j, hj, rfl, rfl, rfl⟩ := hrel
    clear w1 w1'
    by_cases h4 : j < 4
    · have hk : k + j < s.size := by have := HK.out; omega
      have d0 : decide ((k : Int) + (j : Int) < (n : Int)) = true := by have := HK.out; simp; omega
      have i0 : (0 : Int) ≤ (k : Int) + (j : Int) := by omega
      have i1 : (k : Int) + (j : Int) < (s.size : Int) := by omega
      have tn : ((k : Int) + (j : Int)).toNat = k + j := by omega
      have pl := p4_lt s k j
      have OB : Hid (bits .or .i64 (wrap64 ((p4 s k j : Int) * 256)) (wrap64 (s[k + j].toNat : Int)) = ((p4 s k (j + 1) : Nat) : Int)) := by
        show _ = _
        have : 256 ^ j ≤ 256 ^ 3 := Nat.pow_le_pow_right (by decide) (by omega)
        rw [or_byte _ _ (by omega) (s[k + j].toNat_lt), p4, byteAt_get s _ hk]
      clear pl
      go_wp2
      go_roundw
      case rel => exact ⟨j + 1, by omega, by rw [OB.out], by rw [show ((j + 1 : Nat) : Int) = (j : Int) + 1 by omega, Int.add_assoc], by first | trivial | rfl⟩
      case measure => simp [intOf]; have := HK.out; omega
    · obtain rfl : j = 4 := by omega
      have d0 : decide ((k : Int) + ((4 : Nat) : Int) < (n : Int)) = false := by have := HK.out; simp; omega
      have d0' : decide ((k : Int) + 4 < (n : Int)) = false := by have := HK.out; simp; omega
      go_wp2
      go_ret
      exact ⟨rfl, (Below.refl _ _).alloc (Nat.le_refl _) _⟩
end Go.Proofs.YtngkiokibldfjaaGreatDoor
namespace Go.Proofs.YtngkiokibldfjaaGreatDoor
open Go.RowKit
/-! The program's frame.record, GetRecord. -/
theorem Blk.next {X w1 : World} {b : Nat} {cs : Array Value} {t : TypeId} (hb : Below X.heap.size X w1) (h : Blk X b cs t) : Blk w1 b cs t := (hb.block _ h.lt).trans h
theorem below_next {n : Nat} {w X w1 : World} (hb : Below X.heap.size X w1) (h : Hid (Below n w X)) (hn : Hid (n ≤ X.heap.size)) : Hid (Below n w w1) := h.out.trans (hb.mono hn.out)
theorem Below.of_eq {X w1 : World} (h : w1 = X) : Below X.heap.size X w1 := by subst h; exact Below.refl _ _
theorem below_drewN {n k : Nat} {w X : World} (h : Below n w X) : Below n w (X.drewN k) := ⟨h.os, h.tape, h.output, h.size, h.block⟩
theorem hid_drew {n : Nat} {w X : World} (h : Hid (Below n w X)) : Hid (Below n w X.drew) := h.out.drew
theorem size_next {n : Nat} {X w1 : World} (hb : Below X.heap.size X w1) (hn : Hid (n ≤ X.heap.size)) : Hid (n ≤ w1.heap.size) := Nat.le_trans hn.out hb.size
def fcells (f : Fr) : Array Value := #[.int .i64 (f.kat : Nat), .int .i64 (f.ksz : Nat), .bool f.gone, .int .i64 (f.bat : Nat), .int .i64 (f.bsz : Nat), .int .i64 (f.at' : Nat), .int .i64 (f.next : Nat)]
def rc0 : Array Value := #[.string ⟨#[]⟩, .bool false, .string ⟨#[]⟩, .int .i64 0, .int .i64 0]
theorem head_in (s : ByteArray) (p ka ks : Nat) (g : Bool) (h : headN s p = some (ka, ks, g)) : p < ka ∧ ka + ks < s.size ∧ 0 < ks ∧ ks ≤ 200 := by
  unfold headN at h
  split at h
  · cases h
  · rename_i ka' ks' hq
    obtain ⟨i1, i2, i3, _⟩ := span_in s _ _ _ _ hq
    split at h
    · cases h
    · rename_i hc
      have e := Option.some.inj h
      obtain ⟨rfl, e2⟩ := Prod.mk.inj e
      obtain ⟨rfl, _⟩ := Prod.mk.inj e2
      omega
theorem frm_in (s : ByteArray) (p : Nat) (f : Fr) (h : frmN s p = some f) : f.at' = p ∧ p < f.kat ∧ 0 < f.ksz ∧ f.ksz ≤ 200 ∧ f.kat + f.ksz < f.bat ∧ f.bsz ≤ 100000 ∧ f.next = f.bat + f.bsz + 4 ∧ f.next ≤ s.size := by
  unfold frmN at h
  split at h
  · cases h
  · rename_i ka ks g hq
    have i1 := head_in s _ _ _ _ hq
    split at h
    · cases h
    · rename_i ba bs hr
      obtain ⟨j1, j2, j3, _⟩ := span_in s _ _ _ _ hr
      split at h
      · cases h
      · rename_i hc
        have e := Option.some.inj h
        subst e
        refine ⟨rfl, by show p < ka; omega, by show 0 < ks; omega, by show ks ≤ 200; omega, by show ka + ks < ba; omega, j3, rfl, ?_⟩
        show ba + bs + 4 ≤ s.size
        rcases Nat.lt_or_ge s.size (ba + bs + 4) with q | q
        · exact absurd (Or.inr q) hc
        · exact q
end Go.Proofs.YtngkiokibldfjaaGreatDoor
namespace Go.Proofs.YtngkiokibldfjaaGreatDoor
open Go.RowKit
/-! laws.eqRecord of two records alike. -/
end Go.Proofs.YtngkiokibldfjaaGreatDoor
