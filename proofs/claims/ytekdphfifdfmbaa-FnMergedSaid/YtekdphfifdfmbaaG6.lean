import Derived.Test.YtekdphfifdfmbaaProg
import Derived.Test.YtekdphfifdfmbaaBase
import Derived.WalkLawsBesides
import Derived.WalkSpells
import Derived.OpenShut
import Derived.Laws.BitsAllLaws
import Derived.Deep.RegionHeld3
import Derived.Deep.DrawnRows
import Derived.BigQuiet
import Derived.Deep.QuietTactic
import Derived.Shelf.Pu.Clone
namespace Go.Proofs.Ytekdphfifdfmbaa
open Go.RowKit
theorem Try.info5 : (Try.prog.info? 5).map (fun i => (i.zero, i.size, i.bytes)) = some (some (.int .u8 0), 1, 1) := by kernel_rfl

theorem or128 (m : Nat) : bits .or .u8 ((m : Int) % 256) 128 = 128 + (m : Int) % 128 := by
  have h : ∀ a, a < 256 → a ||| 128 = 128 + a % 128 := by decide +kernel
  have e1 : ((m : Int) % 256) = ((m % 256 : Nat) : Int) := by omega
  rw [e1, show (128 : Int) = ((128 : Nat) : Int) from rfl, u8_or_nat _ _ (by omega) (by omega), h _ (by omega)]; omega

def nine : Array Value := #[.int .u8 0, .int .u8 0, .int .u8 0, .int .u8 0, .int .u8 0, .int .u8 0, .int .u8 0, .int .u8 0, .int .u8 0]

/-- What PutNum gives. -/
def putNum (n : Int) : ByteArray := if n < 0 then ByteArray.empty else strOfNums (putL 8 n.toNat)
end Go.Proofs.Ytekdphfifdfmbaa
namespace Go.Proofs.Ytekdphfifdfmbaa
open Go.RowKit

/-! A cursor: a block of two cells, the data and the place. -/
theorem grown_drew {a b : World} {r : Option Nat} (h : a.grownBy b r) : a.grownBy b.drew r := ⟨h.os, h.tape, h.output, h.size, h.block⟩

def leftI (s : ByteArray) (p : Int) : Int := if p < 0 ∨ s.size < p then 0 else s.size - p

/-! ### What takeNum comes to -/
/-- How many bytes a number takes that begins the list, at most f. -/
def cnt : Nat → List UInt8 → Option Nat
  | 0, _ => none
  | _ + 1, [] => none
  | f + 1, b :: l => if b.toNat < 128 then some 1 else (cnt f l).map (· + 1)
theorem cnt_hit : ∀ (f k : Nat) (l : List UInt8) (b : UInt8), (∀ i, i < k → ∃ x, l[i]? = some x ∧ 128 ≤ x.toNat) → l[k]? = some b → b.toNat < 128 → k < f → cnt f l = some (k + 1)
  | 0, k, l, b, _, _, _, h => by omega
  | f + 1, k, [], b, _, h, _, _ => by simp at h
  | f + 1, 0, x :: l, b, _, h, hb, _ => by simp at h; subst h; simp [cnt, hb]
  | f + 1, k + 1, x :: l, b, ha, h, hb, hk => by
    obtain ⟨y, hy, hy2⟩ := ha 0 (by omega)
    simp at hy; subst hy
    have ih := cnt_hit f k l b (fun i hi => by obtain ⟨z, hz, hz2⟩ := ha (i + 1) (by omega); exact ⟨z, by simpa using hz, hz2⟩) (by simpa using h) hb (by omega)
    simp [cnt, show ¬ x.toNat < 128 by omega, ih]
theorem cnt_end : ∀ (f k : Nat) (l : List UInt8), (∀ i, i < k → ∃ x, l[i]? = some x ∧ 128 ≤ x.toNat) → (k = f ∨ (l.length = k ∧ k ≤ f)) → cnt f l = none
  | 0, _, _, _, _ => rfl
  | f + 1, k, [], _, _ => rfl
  | f + 1, 0, x :: l, _, h => by simp at h
  | f + 1, k + 1, x :: l, ha, h => by
    obtain ⟨y, hy, hy2⟩ := ha 0 (by omega)
    simp at hy; subst hy
    have ih := cnt_end f k l (fun i hi => by obtain ⟨z, hz, hz2⟩ := ha (i + 1) (by omega); exact ⟨z, by simpa using hz, hz2⟩) (by simp at h; omega)
    simp [cnt, show ¬ x.toNat < 128 by omega, ih]
def valL : List UInt8 → Nat
  | [] => 0
  | b :: l => b.toNat % 128 + 128 * valL l
theorem valL_snoc (l : List UInt8) (b : UInt8) : valL (l ++ [b]) = valL l + 128 ^ l.length * (b.toNat % 128) := by
  induction l with
  | nil => simp [valL]
  | cons x l ih => simp only [List.cons_append, valL, ih, List.length_cons, Nat.pow_succ, Nat.mul_add]; rw [Nat.mul_comm (128 ^ l.length) 128, Nat.mul_assoc]; omega
theorem valL_lt (l : List UInt8) : valL l < 128 ^ l.length := by
  induction l with
  | nil => simp [valL]
  | cons x l ih => simp only [valL, List.length_cons, Nat.pow_succ]; omega
/-- The bytes from a place on; none where it is no place of the data. -/
def restL (s : ByteArray) (p : Int) : List UInt8 := if p < 0 ∨ s.size < p then [] else s.data.toList.drop p.toNat
/-- The number that begins at a place, and how many bytes it takes. -/
def getNum (s : ByteArray) (p : Int) : Option (Nat × Nat) :=
  match cnt 9 (restL s p) with
  | none => none
  | some n => if n = 1 ∨ (restL s p).getD (n - 1) 0 ≠ 0 then some (valL ((restL s p).take n), n) else none
end Go.Proofs.Ytekdphfifdfmbaa
namespace Go.Proofs.Ytekdphfifdfmbaa
open Go.RowKit Go.Shelf
/-- How the shelf's numbers read in this program. -/
def cloneRen : Ren := ⟨fun x => if x = 25 then 83 else x, fun x => if x = 37 then 22 else if x = 47 then 157 else if x = 9 then 9 else if x = 5 then 5 else if x = 3 then 3 else if x = 4 then 4 else x, fun x => x⟩
theorem cloneLays : LaysPu.n25 Try.prog cloneRen := { mixed := by kernel_rfl, f25 := by kernel_rfl, t0 := by kernel_rfl, a0 := fun _ => by kernel_rfl, z0 := fun _ => by kernel_rfl, v0 := fun _ => by kernel_rfl, i0 := by kernel_rfl, t3 := by kernel_rfl, a3 := fun _ => by kernel_rfl, z3 := fun _ => by kernel_rfl, v3 := fun _ => by kernel_rfl, i3 := by kernel_rfl, t4 := by kernel_rfl, a4 := fun _ => by kernel_rfl, z4 := fun _ => by kernel_rfl, v4 := fun _ => by kernel_rfl, i4 := by kernel_rfl, t5 := by kernel_rfl, a5 := fun _ => by kernel_rfl, z5 := fun _ => by kernel_rfl, v5 := fun _ => by kernel_rfl, i5 := by kernel_rfl, t9 := by kernel_rfl, a9 := fun _ => by kernel_rfl, z9 := fun _ => by kernel_rfl, v9 := fun _ => by kernel_rfl, i9 := by kernel_rfl, t37 := by kernel_rfl, a37 := fun _ => by kernel_rfl, z37 := fun _ => by kernel_rfl, v37 := fun _ => by kernel_rfl, i37 := by kernel_rfl, t47 := by kernel_rfl, a47 := fun _ => by kernel_rfl, z47 := fun _ => by kernel_rfl, v47 := fun _ => by kernel_rfl, i47 := by kernel_rfl }
theorem lite_clone (s : ByteArray) (w : World) (hs : s.size ≤ 281474976710656) :
    Calls Try.prog 83 #[.string s] w fun e w' => e = .returned (.string s) ∧ Below w.heap.size w w' := AnyPu.stringslite_Clone cloneLays s w hs
set_option maxHeartbeats 400000 in
theorem clone_any (s : ByteArray) (w : World) (hs : s.size ≤ 281474976710656) :
    Calls Try.prog 64 #[.string s] w fun e w' => e = .returned (.string s) ∧ Below w.heap.size w w' := by
  go_enter Try.func64, Try.ntmps64
  go_wp2_with fail
  refine (lite_clone s _ hs).mono ?_
  rintro e w1 ⟨rfl, hb⟩
  go_wp2
  go_ret
  exact ⟨rfl, hb⟩
end Go.Proofs.Ytekdphfifdfmbaa
