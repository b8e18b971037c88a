import Derived.Test.YtcbmgpdpjagaoaaGreatG1
import Derived.Test.YtcbmgpdpjagaoaaGreatG1
import Derived.Test.YtcbmgpdpjagaoaaGreatG1
import Derived.WalkLawsBesides
import Derived.WalkSpells
import Derived.OpenShut
import Derived.BigQuiet
import Derived.Deep.QuietTactic
import Derived.Deep.RegionHeld3
import Derived.Deep.CutRange
import Derived.Test.YtcbmgpdpjagaoaaGreatProg
import Derived.Test.YtcbmgpdpjagaoaaGreatBase
import Derived.Lib.Bytealg
namespace Go.Proofs.YtcbmgpdpjagaoaaGreat
open Go.RowKit
structure En where
 ky : ByteArray
 sq : Int
 gn : Bool
 tx : ByteArray
def En.row (o : En) : Array Value := #[.string (o).ky, .int .i64 (o).sq, .bool (o).gn, .string (o).tx]
def enF (o : Nat → En) (p : Nat) : Value :=
 if p % 4 = 0 then .string (o (p / 4)).ky else if p % 4 = 1 then .int .i64 (o (p / 4)).sq else if p % 4 = 2 then .bool (o (p / 4)).gn else .string (o (p / 4)).tx
theorem enF0 (o : Nat → En) (k : Nat) : enF o (k * 4) = .string (o k).ky := by unfold enF; rw [if_pos (by omega), show (k * 4) / 4 = k by omega]
theorem enF1 (o : Nat → En) (k : Nat) : enF o (k * 4 + 1) = .int .i64 (o k).sq := by unfold enF; rw [if_neg (by omega), if_pos (by omega), show (k * 4 + 1) / 4 = k by omega]
theorem enF2 (o : Nat → En) (k : Nat) : enF o (k * 4 + 2) = .bool (o k).gn := by unfold enF; rw [if_neg (by omega), if_neg (by omega), if_pos (by omega), show (k * 4 + 2) / 4 = k by omega]
theorem enF3 (o : Nat → En) (k : Nat) : enF o (k * 4 + 3) = .string (o k).tx := by unfold enF; rw [if_neg (by omega), if_neg (by omega), if_neg (by omega), show (k * 4 + 3) / 4 = k by omega]
def Ens (w : World) (a : Option Addr) (n cap : Nat) (o : Nat → En) : Prop :=
 n ≤ cap ∧ (n = 0 ∨ ∃ b off, a = some ⟨b, off, none⟩ ∧ b < w.heap.size ∧ ∀ k, k < n → w.cell? ⟨b, off + k * 4, none⟩ = some (.string (o k).ky) ∧ w.cell? ⟨b, off + k * 4 + 1, none⟩ = some (.int .i64 (o k).sq) ∧ w.cell? ⟨b, off + k * 4 + 2, none⟩ = some (.bool (o k).gn) ∧ w.cell? ⟨b, off + k * 4 + 3, none⟩ = some (.string (o k).tx))
theorem Ens.below {w w' : World} {a : Option Addr} {n cap : Nat} {o : Nat → En} (h : Ens w a n cap o) (hb : Below w.heap.size w w') : Ens w' a n cap o := by
 refine ⟨h.1, ?_⟩
 rcases h.2 with h0 | ⟨b, off, rfl, h1, h2⟩
 · exact Or.inl h0
 · refine Or.inr ⟨b, off, rfl, Nat.lt_of_lt_of_le h1 hb.size, fun k hk => ?_⟩
   obtain ⟨c0, c1, c2, c3⟩ := h2 k hk; exact ⟨(hb.cell (p := ⟨b, _, none⟩) h1).trans c0, (hb.cell (p := ⟨b, _, none⟩) h1).trans c1, (hb.cell (p := ⟨b, _, none⟩) h1).trans c2, (hb.cell (p := ⟨b, _, none⟩) h1).trans c3⟩
theorem Ens.of_row {w : World} {b : Nat} {t : TypeId} {n : Nat} {o : Nat → En} (h : FRow w b t (n * 4) (enF o)) : Ens w (some ⟨b, 0, none⟩) n n o := by
 refine ⟨Nat.le_refl _, Or.inr ⟨b, 0, rfl, h.lt, fun k hk => ?_⟩⟩; have g0 := h.cell (show k * 4 < n * 4 by omega); have g1 := h.cell (show k * 4 + 1 < n * 4 by omega); have g2 := h.cell (show k * 4 + 2 < n * 4 by omega); have g3 := h.cell (show k * 4 + 3 < n * 4 by omega); rw [enF0] at g0; rw [enF1] at g1; rw [enF2] at g2; rw [enF3] at g3; simp only [Nat.zero_add]; exact ⟨g0, g1, g2, g3⟩
theorem balEn {w w' : World} (h : Below w.heap.size w w') (o : Obj) : Below w.heap.size w (w'.alloc o) := h.alloc h.size o
end Go.Proofs.YtcbmgpdpjagaoaaGreat
namespace Go.Proofs.YtcbmgpdpjagaoaaGreat
open Go.RowKit
def cmpI (x y : Int) : Int := if x < y then -1 else if y < x then 1 else 0
def orI (x y : Int) : Int := if x ≠ 0 then x else y
set_option maxRecDepth 20000 in
theorem iCompare (x y : Int) (w : World) :
 Calls Tryz.prog 100 #[.int .i64 x, .int .i64 y] w fun e w' => e = .returned (.int .i64 (cmpI x y)) ∧ w' = w := by
 have N : ∀ (x : Int) (w : World), Calls Tryz.prog 106 #[.int .i64 x] w fun e w' => e = .returned (.bool false) ∧ w' = w := fun x w => by
  have dm : (x != x) = false := by simp
  go_enter Tryz.func106, Tryz.ntmps106
  go_wp2
  go_ret
  exact ⟨rfl, rfl⟩
 have NH := fun x w => hid (N x w); clear N
 by_cases h1 : x < y
 · have E : Hid (cmpI x y = -1) := if_pos h1
   have d1 : decide (x < y) = true := by simp; omega
   go_enter Tryz.func100, Tryz.ntmps100
   go_wp2_with fail
   refine (NH _ _).out.mono ?_
   rintro e w1 ⟨rfl, rfl⟩
   go_wp2_with fail
   refine (NH _ _).out.mono ?_
   rintro e w2 ⟨rfl, rfl⟩
   go_wp2
   go_ret
   exact ⟨by rw [E.out]; rfl, rfl⟩
 have d1 : decide (x < y) = false := by simp; omega
 by_cases h2 : y < x
 · have E : Hid (cmpI x y = 1) := by show _ = _; unfold cmpI; rw [if_neg h1, if_pos h2]
   have d2 : decide (y < x) = true := by simp; omega
   go_enter Tryz.func100, Tryz.ntmps100
   go_wp2_with fail
   refine (NH _ _).out.mono ?_
   rintro e w1 ⟨rfl, rfl⟩
   go_wp2_with fail
   refine (NH _ _).out.mono ?_
   rintro e w2 ⟨rfl, rfl⟩
   go_wp2
   go_ret
   exact ⟨by rw [E.out]; rfl, rfl⟩
 · have d2 : decide (y < x) = false := by simp; omega
   have E : Hid (cmpI x y = 0) := by show _ = _; unfold cmpI; rw [if_neg h1, if_neg h2]
   go_enter Tryz.func100, Tryz.ntmps100
   go_wp2_with fail
   refine (NH _ _).out.mono ?_
   rintro e w1 ⟨rfl, rfl⟩
   go_wp2_with fail
   refine (NH _ _).out.mono ?_
   rintro e w2 ⟨rfl, rfl⟩
   go_wp2
   go_ret
   exact ⟨by rw [E.out]; rfl, rfl⟩
set_option maxRecDepth 20000 in
theorem iOr (b : Nat) (x y : Int) (w : World) (c0 : w.cell? ⟨b, 0, none⟩ = some (.int .i64 x)) (c1 : w.cell? ⟨b, 1, none⟩ = some (.int .i64 y)) :
 Calls Tryz.prog 91 #[.slice (some ⟨b, 0, none⟩) 2 2] w fun e w' => e = .returned (.int .i64 (orI x y)) ∧ w' = w := by
 have C0 := hid c0; have C1 := hid c1; clear c0 c1
 go_enter Tryz.func91, Tryz.ntmps91
 go_wp2_with fail
 go_loopw [8] (fun q wr => ∃ k : Nat, k ≤ 2 ∧ q = .int .i64 k ∧ (0 < k → x = 0) ∧ (1 < k → y = 0) ∧ wr = w) (fun q _ => 2 - (intOf q).toNat)
 case atStart => exact ⟨0, by omega, rfl, by omega, by omega, rfl⟩
 case round =>
  obtain ⟨k, hk, rfl, h1, h2, rfl⟩ := hrel; have HH := hid h1; have H2 := hid h2; clear h1 h2
  rcases (show k = 0 ∨ k = 1 ∨ k = 2 by omega) with rfl | rfl | rfl
  · have c0 := C0.out
    by_cases e : x = 0
    · have d : (x != 0) = false := by simp [e]
      go_wp2
      go_roundw
      case rel => exact ⟨1, by omega, rfl, fun _ => e, fun h => absurd h (by omega), trivial⟩
      case measure => simp [intOf]
    · have d : (x != 0) = true := by simp [e]
      have E : Hid (orI x y = x) := if_pos e
      go_wp2
      go_ret
      exact ⟨by rw [E.out]; rfl, rfl⟩
  · have c1 := C1.out
    by_cases e : y = 0
    · have d : (y != 0) = false := by simp [e]
      go_wp2
      go_roundw
      case rel => exact ⟨2, by omega, rfl, fun _ => HH.out (by omega), fun _ => e, trivial⟩
      case measure => simp [intOf]
    · have d : (y != 0) = true := by simp [e]
      have E : Hid (orI x y = y) := if_neg (by have := HH.out (by omega); omega)
      go_wp2
      go_ret
      exact ⟨by rw [E.out]; rfl, rfl⟩
  · have E : Hid (orI x y = 0) := by
     show _ = _; unfold orI; rw [if_neg (by have := HH.out (by omega); omega)]; exact H2.out (by omega)
    go_wp2
    go_ret
    exact ⟨by rw [E.out]; rfl, rfl⟩
end Go.Proofs.YtcbmgpdpjagaoaaGreat
namespace Go.Proofs.YtcbmgpdpjagaoaaGreat
open Go.RowKit
theorem cmpB_lt : ∀ (a b : List UInt8), (Lib.compareBytes a b < 0 ↔ Op.bytesLess a b = true)
 | [], [] => by simp [Lib.compareBytes, Op.bytesLess]
 | [], _ :: _ => by simp [Lib.compareBytes, Op.bytesLess]
 | _ :: _, [] => by simp [Lib.compareBytes, Op.bytesLess]
 | x :: a, y :: b => by
  have ih := cmpB_lt a b; unfold Lib.compareBytes Op.bytesLess
  by_cases h1 : x < y
  · simp [h1]
  · by_cases h2 : y < x
    · have : x ≠ y := fun e => by subst e; exact UInt8.lt_irrefl _ h2
      simp [h1, h2, this]
    · have : x = y := UInt8.le_antisymm (UInt8.not_lt.1 h2) (UInt8.not_lt.1 h1)
      simp [this, UInt8.lt_irrefl, ih]
theorem cmpB_zero : ∀ (a b : List UInt8), (Lib.compareBytes a b = 0 ↔ a = b)
 | [], [] => by simp [Lib.compareBytes]
 | [], _ :: _ => by simp [Lib.compareBytes]
 | _ :: _, [] => by simp [Lib.compareBytes]
 | x :: a, y :: b => by
  have ih := cmpB_zero a b; unfold Lib.compareBytes
  by_cases h1 : x < y
  · have : x ≠ y := fun e => by subst e; exact UInt8.lt_irrefl _ h1
    simp [h1, this]
  · by_cases h2 : y < x
    · have : x ≠ y := fun e => by subst e; exact UInt8.lt_irrefl _ h2
      simp [h1, h2, this]
    · have : x = y := UInt8.le_antisymm (UInt8.not_lt.1 h2) (UInt8.not_lt.1 h1)
      simp [this, UInt8.lt_irrefl, ih]
theorem cmpB_swap : ∀ (a b : List UInt8), Lib.compareBytes b a = - Lib.compareBytes a b
 | [], [] => by simp [Lib.compareBytes]
 | [], _ :: _ => by simp [Lib.compareBytes]
 | _ :: _, [] => by simp [Lib.compareBytes]
 | x :: a, y :: b => by
  have ih := cmpB_swap a b; unfold Lib.compareBytes
  by_cases h1 : x < y
  · have : ¬ y < x := fun e => UInt8.lt_irrefl _ (UInt8.lt_trans h1 e)
    simp [h1, this]
  · by_cases h2 : y < x
    · simp [h1, h2]
    · simp [h1, h2, ih]
theorem baL {a b : ByteArray} (h : a.data.toList = b.data.toList) : a = b := by
 cases a; cases b; simp at h; simp [h]
theorem baT (a : ByteArray) : a.toList = a.data.toList := ByteArray.toList_eq ..
def kLt (a b : ByteArray) : Bool := Op.bytesLess a.toList b.toList
def kCmp (a b : ByteArray) : Int := Lib.compareBytes a.data.toList b.data.toList
theorem kCmp_lt (a b : ByteArray) : kCmp a b < 0 ↔ kLt a b = true := by unfold kCmp kLt; rw [baT, baT]; exact cmpB_lt _ _
theorem kCmp_zero (a b : ByteArray) : kCmp a b = 0 ↔ a = b := by
 unfold kCmp; rw [cmpB_zero]; exact ⟨baL, fun h => by rw [h]⟩
theorem kCmp_swap (a b : ByteArray) : kCmp b a = - kCmp a b := cmpB_swap _ _
theorem kEq (a b : ByteArray) : (a.toList == b.toList) = decide (a = b) := by
 rw [Bool.eq_iff_iff]; simp only [beq_iff_eq, decide_eq_true_eq]
 constructor
 · intro h; rw [baT, baT] at h; exact baL h
 · intro h; rw [h]
def enLt (a b : En) : Prop := kLt a.ky b.ky = true ∨ (a.ky = b.ky ∧ b.sq < a.sq)
def enCmp (a b : En) : Int := orI (kCmp a.ky b.ky) (cmpI b.sq a.sq)
theorem cmpI_lt (x y : Int) : cmpI x y < 0 ↔ x < y := by
 unfold cmpI; split
 · omega
 · split <;> omega
theorem cmpI_swap (x y : Int) : cmpI y x = - cmpI x y := by
 unfold cmpI
 rcases Int.lt_trichotomy x y with h | h | h
 · simp [h, show ¬ y < x by omega]
 · simp [h]
 · simp [h, show ¬ x < y by omega]
theorem enCmp_lt (a b : En) : enCmp a b < 0 ↔ enLt a b := by
 unfold enCmp enLt orI; have h1 := kCmp_lt a.ky b.ky; have h2 := kCmp_zero a.ky b.ky; have h3 := cmpI_lt b.sq a.sq
 by_cases e : kCmp a.ky b.ky = 0
 · rw [if_neg (fun h => h e), h3]
   have hn : ¬ kLt a.ky b.ky = true := fun h => by have := h1.2 h; omega
   exact ⟨fun h => .inr ⟨h2.1 e, h⟩, fun h => h.elim (fun h => absurd h hn) And.right⟩
 · rw [if_pos e, h1]
   exact ⟨.inl, fun h => h.elim id fun h => absurd (h2.2 h.1) e⟩
theorem enCmp_swap (a b : En) : enCmp b a = - enCmp a b := by
 unfold enCmp orI; rw [kCmp_swap a.ky b.ky, cmpI_swap b.sq a.sq]
 by_cases e : kCmp a.ky b.ky = 0
 · simp [e]
 · simp [e]
theorem enCmp_zero (a b : En) : enCmp a b = 0 ↔ a.ky = b.ky ∧ a.sq = b.sq := by
 unfold enCmp orI cmpI; have h2 := kCmp_zero a.ky b.ky
 by_cases e : kCmp a.ky b.ky = 0
 · rw [if_neg (by simpa using e)]
   have he := h2.1 e; simp only [he, true_and]
   split <;> (try split) <;> omega
 · rw [if_pos e]
   have hne : ¬ a.ky = b.ky := fun h => e (h2.2 h)
   simp [e, hne]
def fitE (e : En) : Prop := 1 ≤ e.ky.size ∧ e.ky.size ≤ 200 ∧ 1 ≤ e.sq ∧ ¬ (e.gn = true ∧ e.tx ≠ ⟨#[]⟩) ∧ e.tx.size ≤ 100000
def sqL (o : Nat → En) (n : Nat) : List Int := (List.range n).map fun i => (o i).sq
theorem sqL_len (o : Nat → En) (n : Nat) : (sqL o n).length = n := by simp [sqL]
theorem sqL_succ (o : Nat → En) (n : Nat) : sqL o (n + 1) = sqL o n ++ [(o n).sq] := by simp [sqL, List.range_succ]
theorem mem_sqL {o : Nat → En} {n : Nat} {v : Int} : v ∈ sqL o n ↔ ∃ i, i < n ∧ (o i).sq = v := by simp [sqL]
def runTo (n : Nat) (o : Nat → En) : Prop := (∀ k, k < n → fitE (o k)) ∧ (∀ k, 0 < k → k < n → enLt (o (k - 1)) (o k)) ∧ (∀ i j, i < j → j < n → (o i).sq ≠ (o j).sq)
theorem runTo_zero (o : Nat → En) : runTo 0 o := ⟨fun k h => absurd h (by omega), fun k _ h => absurd h (by omega), fun i j _ h => absurd h (by omega)⟩
theorem runTo_succ {n : Nat} {o : Nat → En} : runTo (n + 1) o ↔ runTo n o ∧ fitE (o n) ∧ (0 < n → enLt (o (n - 1)) (o n)) ∧ (o n).sq ∉ sqL o n := by
 constructor
 · rintro ⟨h1, h2, h3⟩
   refine ⟨⟨fun k hk => h1 k (by omega), fun k h0 hk => h2 k h0 (by omega), fun i j hi hj => h3 i j hi (by omega)⟩, h1 n (by omega), fun h0 => h2 n h0 (by omega), ?_⟩; rw [mem_sqL]
   rintro ⟨i, hi, e⟩
   exact h3 i n hi (by omega) e
 · rintro ⟨⟨h1, h2, h3⟩, g1, g2, g3⟩
   refine ⟨fun k hk => ?_, fun k h0 hk => ?_, fun i j hi hj => ?_⟩
   · by_cases e : k = n
     · subst e; exact g1
     · exact h1 k (by omega)
   · by_cases e : k = n
     · subst e; exact g2 h0
     · exact h2 k h0 (by omega)
   · by_cases e : j = n
     · subst e; exact fun q => g3 (mem_sqL.2 ⟨i, hi, q⟩)
     · exact h3 i j hi (by omega)
theorem runTo_mono {m n : Nat} {o : Nat → En} (h : runTo n o) (hm : m ≤ n) : runTo m o :=
 ⟨fun k hk => h.1 k (by omega), fun k h0 hk => h.2.1 k h0 (by omega), fun i j hi hj => h.2.2 i j hi (by omega)⟩
def runOk (n : Nat) (o : Nat → En) : Prop := n ≤ 1000 ∧ runTo n o
open Classical in
noncomputable def runV (n : Nat) (o : Nat → En) : Int := if runOk n o then 0 else 1
theorem runV_ok {n : Nat} {o : Nat → En} (h : runOk n o) : runV n o = 0 := by unfold runV; rw [if_pos h]
theorem runV_no {n : Nat} {o : Nat → En} (h : ¬ runOk n o) : runV n o = 1 := by unfold runV; rw [if_neg h]
def rise (l : List Int) : Prop := ∀ i, 0 < i → i < l.length → l.getD (i - 1) 0 < l.getD i 0
theorem rise_pw {l : List Int} : rise l ↔ l.Pairwise (· < ·) := by
 constructor
 · intro h
   have step : ∀ d i, i + d + 1 < l.length → l.getD i 0 < l.getD (i + d + 1) 0 := by
    intro d
    induction d with
    | zero => intro i hi; exact h (i + 0 + 1) (by omega) hi
    | succ d ih =>
     intro i hi; have h1 := ih i (by omega); have h2 := h (i + (d + 1) + 1) (by omega) hi; rw [show i + (d + 1) + 1 - 1 = i + d + 1 by omega] at h2
     omega
   rw [List.pairwise_iff_getElem]; intro i j hi hj hij; have := step (j - i - 1) i (by omega); rw [show i + (j - i - 1) + 1 = j by omega] at this
   simpa [hi, hj] using this
 · intro h i h0 hi
   rw [List.pairwise_iff_getElem] at h; have := h (i - 1) i (by omega) hi (by omega)
   simpa [hi, show i - 1 < l.length by omega] using this
def sortI (l : List Int) : List Int := l.mergeSort fun x y => decide (x ≤ y)
theorem sortI_perm (l : List Int) : (sortI l).Perm l := List.mergeSort_perm _ _
theorem sortI_len (l : List Int) : (sortI l).length = l.length := (sortI_perm l).length_eq
theorem sortI_le (l : List Int) : (sortI l).Pairwise (· ≤ ·) := by
 have := List.pairwise_mergeSort (le := fun x y : Int => decide (x ≤ y)) (fun a b c h1 h2 => by simp at *; omega) (fun a b => by simp; omega) l; exact this.imp (by simp)
theorem rise_sortI (l : List Int) : rise (sortI l) ↔ l.Nodup := by
 rw [rise_pw]
 constructor
 · intro h
   have : (sortI l).Nodup := h.imp (by intro a b h e; omega); exact (sortI_perm l).nodup_iff.1 this
 · intro h
   have h1 := (sortI_perm l).nodup_iff.2 h; exact (sortI_le l).imp₂ (fun a b h e => by omega) h1
theorem sqL_nodup (o : Nat → En) (n : Nat) : (sqL o n).Nodup ↔ ∀ i j, i < j → j < n → (o i).sq ≠ (o j).sq := by
 unfold List.Nodup; rw [List.pairwise_iff_getElem]; simp only [sqL, List.length_map, List.length_range, List.getElem_map, List.getElem_range]; exact ⟨fun h i j hi hj => h i j (by omega) hj hi, fun h i j _ hj hi => h i j hi hj⟩
theorem runTo_iff (n : Nat) (o : Nat → En) : runTo n o ↔ (∀ k, k < n → fitE (o k)) ∧ (∀ k, 0 < k → k < n → ¬ enCmp (o k) (o (k - 1)) < 0) ∧ rise (sortI (sqL o n)) := by
 rw [rise_sortI, sqL_nodup]
 constructor
 · rintro ⟨h1, h2, h3⟩
   refine ⟨h1, fun k h0 hk => ?_, h3⟩; have := (enCmp_lt _ _).2 (h2 k h0 hk); have e := enCmp_swap (o (k - 1)) (o k)
   omega
 · rintro ⟨h1, h2, h3⟩
   refine ⟨h1, fun k h0 hk => ?_, h3⟩; have h := h2 k h0 hk; have e := enCmp_swap (o (k - 1)) (o k); refine (enCmp_lt _ _).1 ?_
   by_cases q : enCmp (o (k - 1)) (o k) = 0
   · exact absurd ((enCmp_zero _ _).1 q).2 (h3 (k - 1) k (by omega) hk)
   · omega
end Go.Proofs.YtcbmgpdpjagaoaaGreat
namespace Go.Proofs.YtcbmgpdpjagaoaaGreat
open Go.RowKit
set_option maxHeartbeats 1000000 in
set_option maxRecDepth 100000 in
theorem iCmpB (a b : ByteArray) (w : World) :
 Calls Tryz.prog 116 #[.string a, .string b] w fun e w' => e = .returned (.int .i64 (kCmp a b)) ∧ w' = w := by
 go_enter Tryz.func116, Tryz.ntmps116
 go_wp2
 rw [run_callFunc_extern Tryz.func121 (by kernel_rfl) (by kernel_rfl) (by kernel_rfl) (e := Extern.BytealgCompare.compare) (by kernel_rfl), Lib.run_compareString]; simp only [Result.andThen]; rw [Oper.upon_value]
 go_wp2
 go_ret
 exact ⟨rfl, rfl⟩
set_option maxHeartbeats 1000000 in
theorem iCmpS (a b : ByteArray) (w : World) :
 Calls Tryz.prog 99 #[.string a, .string b] w fun e w' => e = .returned (.int .i64 (kCmp a b)) ∧ w' = w := by
 have K := fun w => hid (iCmpB a b w)
 go_enter Tryz.func99, Tryz.ntmps99
 go_wp2_with fail
 refine (K _).out.mono ?_
 rintro e w1 ⟨rfl, rfl⟩
 go_wp2
 go_ret
 exact ⟨rfl, rfl⟩
theorem RA.nx {X w1 : World} {b : Nat} {t : TypeId} {c : Array Value} (hb : Below X.heap.size X w1) (h : RA X b t c) : RA w1 b t c := h.below hb h.lt
theorem below_nx {n : Nat} {w X w1 : World} (hb : Below X.heap.size X w1) (h : Hid (Below n w X)) (hn : Hid (n ≤ X.heap.size)) : Hid (Below n w w1) := h.out.trans (hb.mono hn.out)
theorem size_nx {n : Nat} {X w1 : World} (hb : Below X.heap.size X w1) (hn : Hid (n ≤ X.heap.size)) : Hid (n ≤ w1.heap.size) := Nat.le_trans hn.out hb.size
theorem hid_dr {n : Nat} {w X : World} (h : Hid (Below n w X)) : Hid (Below n w X.drew) := h.out.drew
theorem onePl (k : ByteArray) (q : Int) : (#[.string k, .int .i64 q] : Array Value).all (·.oneCell') = true := by simp [Value.oneCell']
set_option maxRecDepth 20000 in
set_option maxHeartbeats 1000000 in
theorem iPlaceOf (k : ByteArray) (q : Int) (g : Bool) (t : ByteArray) (w : World) :
 Calls Tryz.prog 43 #[.agg #[.string k, .int .i64 q, .bool g, .string t]] w fun e w' => e = .returned (.agg #[.string k, .int .i64 q]) ∧ Below w.heap.size w w' := by
 obtain ⟨W0, hW0⟩ : ∃ W, W = (w.alloc (.cells #[.string k, .int .i64 q, .bool g, .string t] 46)).alloc (.cells #[.string ⟨#[]⟩, .int .i64 0] 81) := ⟨_, rfl⟩; have R0 : Hid (RA W0 (w.heap.size + 1) 81 #[.string ⟨#[]⟩, .int .i64 0]) := by rw [hW0]; exact RA.next _ _ _ (by rw [size_al])
 have B0 : Hid (Below w.heap.size w W0) := by rw [hW0]; exact balEn (balEn (Below.refl _ _) _) _
 have A0 : RA W0 w.heap.size 46 #[.string k, .int .i64 q, .bool g, .string t] := by rw [hW0]; exact (RA.new _ _ _).alloc _
 have a0 := A0.cell 0; have a1 := A0.cell 1; clear A0
 go_enter Tryz.func43, Tryz.ntmps43
 go_upto_region 1 with fail
 rw [← hW0]; clear hW0
 go_wp2_with (refine wpList_store_row rfl 81 (.tmp 2) (.tmp 7) rfl (w.heap.size + 1) #[.string k, .int .i64 q] rfl rfl _ _ R0.out (by kernel_rfl) rfl (onePl _ _) ?_)
 refine bodyPost_ret (v := .agg #[.string k, .int .i64 q]) ?_ rfl ⟨rfl, below_setRow B0.out _ _ (by omega)⟩; exact results_cell_row Tryz.results43 _ _ (w.heap.size + 1) _ _ _ _ rfl (R0.out.setRow _) Tryz.underlying81 rfl (by kernel_rfl)
set_option maxRecDepth 20000 in
set_option maxHeartbeats 2000000 in
theorem iCmpP (k : ByteArray) (q : Int) (k' : ByteArray) (q' : Int) (w : World) :
 Calls Tryz.prog 79 #[.agg #[.string k, .int .i64 q], .agg #[.string k', .int .i64 q']] w fun e w' => e = .returned (.int .i64 (orI (kCmp k k') (cmpI q' q))) ∧ Below w.heap.size w w' := by
 have K1 := fun w => hid (iCmpS k k' w); have K2 := fun w => hid (iCompare q' q w); obtain ⟨A, hA⟩ : ∃ A, A = kCmp k k' := ⟨_, rfl⟩; obtain ⟨B, hB⟩ : ∃ B, B = cmpI q' q := ⟨_, rfl⟩; rw [← hA] at K1 ⊢; rw [← hB] at K2 ⊢; clear hA hB; obtain ⟨W2, hW2⟩ : ∃ W, W = (w.alloc (.cells #[.string k, .int .i64 q] 81)).alloc (.cells #[.string k', .int .i64 q'] 81) := ⟨_, rfl⟩; have R1 : RA W2 w.heap.size 81 #[.string k, .int .i64 q] := by rw [hW2]; exact (RA.new _ _ _).alloc _
 have R2 : RA W2 (w.heap.size + 1) 81 #[.string k', .int .i64 q'] := by rw [hW2]; exact RA.next _ _ _ (by rw [size_al])
 have B2 : Hid (Below w.heap.size w W2) := by rw [hW2]; exact balEn (balEn (Below.refl _ _) _) _
 have x0 := R1.cell 0; have x1 := R1.cell 1; have y0 := R2.cell 0; have y1 := R2.cell 1; clear R1 R2
 go_enter Tryz.func79, Tryz.ntmps79
 go_wp2_with fail
 rw [← hW2]; clear hW2
 go_region_held3 (fun wx => wx.cell? ⟨w.heap.size, 0, none⟩ = some (.string k) ∧ wx.cell? ⟨w.heap.size, 1, none⟩ = some (.int .i64 q) ∧ wx.cell? ⟨w.heap.size + 1, 0, none⟩ = some (.string k') ∧ wx.cell? ⟨w.heap.size + 1, 1, none⟩ = some (.int .i64 q')) ((first | (go_keep; done))) ((first
  | (go_at_call 99; refine (K1 _).out.mono ?_; rintro e w2 ⟨rfl, rfl⟩)
  | (go_at_call 100; refine (K2 _).out.mono ?_; rintro e w3 ⟨rfl, rfl⟩)
  | (go_at_call 91; refine (iOr _ A B _ ((RA.new W2 3 #[.int .i64 A, .int .i64 B]).drew.cell 0) ((RA.new W2 3 #[.int .i64 A, .int .i64 B]).drew.cell 1)).mono ?_; rintro e w4 ⟨rfl, rfl⟩)))
 all_goals go_wp2
 all_goals go_ret
 all_goals exact ⟨rfl, (B2.out.alloc B2.out.size _).drew⟩
set_option maxRecDepth 20000 in
set_option maxHeartbeats 2000000 in
theorem iCmpE (k : ByteArray) (q : Int) (g : Bool) (t : ByteArray) (k' : ByteArray) (q' : Int) (g' : Bool) (t' : ByteArray) (w : World) :
 Calls Tryz.prog 63 #[.agg #[.string k, .int .i64 q, .bool g, .string t], .agg #[.string k', .int .i64 q', .bool g', .string t']] w fun e w' => e = .returned (.int .i64 (enCmp ⟨k, q, g, t⟩ ⟨k', q', g', t'⟩)) ∧ Below w.heap.size w w' := by
 have K1 := fun w => hid (iPlaceOf k q g t w); have K2 := fun w => hid (iPlaceOf k' q' g' t' w); have K3 := fun w => hid (iCmpP k q k' q' w); obtain ⟨A, hA⟩ : ∃ A, A = enCmp ⟨k, q, g, t⟩ ⟨k', q', g', t'⟩ := ⟨_, rfl⟩; have hA2 : orI (kCmp k k') (cmpI q' q) = A := by rw [hA]; rfl
 rw [hA2] at K3; rw [← hA]; clear hA hA2; obtain ⟨W2, hW2⟩ : ∃ W, W = (w.alloc (.cells #[.string k, .int .i64 q, .bool g, .string t] 46)).alloc (.cells #[.string k', .int .i64 q', .bool g', .string t'] 46) := ⟨_, rfl⟩; have hJ : RA W2 w.heap.size 46 #[.string k, .int .i64 q, .bool g, .string t] := by rw [hW2]; exact (RA.new _ _ _).alloc _
 have hF : RA W2 (w.heap.size + 1) 46 #[.string k', .int .i64 q', .bool g', .string t'] := by rw [hW2]; exact RA.next _ _ _ (by rw [size_al])
 have hW : Hid (Below w.heap.size w W2) := by rw [hW2]; exact balEn (balEn (Below.refl _ _) _) _
 have hN := hid (hW.out.size); have x0 := hJ.cell 0; have x1 := hJ.cell 1; have x2 := hJ.cell 2; have x3 := hJ.cell 3; have y0 := hF.cell 0; have y1 := hF.cell 1; have y2 := hF.cell 2; have y3 := hF.cell 3
 go_enter Tryz.func63, Tryz.ntmps63
 go_wp2_with fail
 rw [← hW2]; clear hW2
 go_region_held3 (fun wx => (wx.cell? ⟨w.heap.size, 0, none⟩ = some (.string k) ∧ wx.cell? ⟨w.heap.size, 1, none⟩ = some (.int .i64 q) ∧ wx.cell? ⟨w.heap.size, 2, none⟩ = some (.bool g) ∧ wx.cell? ⟨w.heap.size, 3, none⟩ = some (.string t)) ∧ wx.cell? ⟨w.heap.size + 1, 0, none⟩ = some (.string k') ∧ wx.cell? ⟨w.heap.size + 1, 1, none⟩ = some (.int .i64 q') ∧ wx.cell? ⟨w.heap.size + 1, 2, none⟩ = some (.bool g') ∧ wx.cell? ⟨w.heap.size + 1, 3, none⟩ = some (.string t'))
  ((first | (go_keep; done) | exact ⟨⟨hJ.cell 0, hJ.cell 1, hJ.cell 2, hJ.cell 3⟩, hF.cell 0, hF.cell 1, hF.cell 2, hF.cell 3⟩))
  (((first
  | (go_at_call_of 43 (Value.agg #[Value.string k, Value.int IntKind.i64 q, Value.bool g, Value.string t]); refine (K1 _).out.mono ?_)
  | (go_at_call_of 43 (Value.agg #[Value.string k', Value.int IntKind.i64 q', Value.bool g', Value.string t']); refine (K2 _).out.mono ?_)
  | (go_at_call 79; refine (K3 _).out.mono ?_)); rintro e w1 ⟨rfl, hb⟩; replace hJ := RA.nx hb hJ; replace hF := RA.nx hb hF; (first | replace hW := below_nx hb hW hN | replace hW := below_nx hb (hid_dr hW) hN); replace hN := size_nx hb hN))
 all_goals go_wp2
 all_goals go_ret
 all_goals exact ⟨rfl, hW.out⟩
end Go.Proofs.YtcbmgpdpjagaoaaGreat
namespace Go.Proofs.YtcbmgpdpjagaoaaGreat
open Go.RowKit
def en0 : En := ⟨⟨#[]⟩, 0, false, ⟨#[]⟩⟩
theorem Tryz.infoEn : (Tryz.prog.info? 46).map (fun i => (i.zero, i.size, i.bytes)) = some (some (.agg #[.string ⟨#[]⟩, .int .i64 0, .bool false, .string ⟨#[]⟩]), 4, 48) := by kernel_rfl
end Go.Proofs.YtcbmgpdpjagaoaaGreat
namespace Go.Proofs.YtcbmgpdpjagaoaaGreat
open Go.RowKit
def kFit (k : ByteArray) : Bool := decide (1 ≤ k.size ∧ k.size ≤ 200)
set_option maxRecDepth 20000 in
theorem iKeyFits (k : ByteArray) (hk : k.size ≤ 1048576) (w : World) :
 Calls Tryz.prog 57 #[.string k] w fun e w' => e = .returned (.bool (kFit k)) ∧ w' = w := by
 by_cases h1 : 1 ≤ k.size
 · have d1 : (1 : Int) ≤ (k.size : Int) := by omega
   by_cases h2 : k.size ≤ 200
   · have d2 : (k.size : Int) ≤ 200 := by omega
     have E : Hid (kFit k = true) := by show _ = _; simp [kFit, h1, h2]
     go_enter Tryz.func57, Tryz.ntmps57
     go_wp2
     go_ret
     exact ⟨by rw [E.out]; rfl, rfl⟩
   · have d2 : ¬ (k.size : Int) ≤ 200 := by omega
     have E : Hid (kFit k = false) := by show _ = _; simp [kFit, h2]
     go_enter Tryz.func57, Tryz.ntmps57
     go_wp2
     go_ret
     exact ⟨by rw [E.out]; rfl, rfl⟩
 · have d1 : ¬ (1 : Int) ≤ (k.size : Int) := by omega
   have E : Hid (kFit k = false) := by show _ = _; simp only [kFit, h1]; simp
   go_enter Tryz.func57, Tryz.ntmps57
   go_wp2
   go_ret
   exact ⟨by rw [E.out]; rfl, rfl⟩
theorem fitE_iff (e : En) : fitE e ↔ kFit e.ky = true ∧ 1 ≤ e.sq ∧ e.tx.size ≤ 100000 ∧ ¬ (e.gn = true ∧ e.tx ≠ ⟨#[]⟩) := by
 unfold fitE kFit; simp only [decide_eq_true_eq]; exact ⟨fun ⟨a, b, c, d, e⟩ => ⟨⟨a, b⟩, c, e, d⟩, fun ⟨⟨a, b⟩, c, e, d⟩ => ⟨a, b, c, d, e⟩⟩
theorem txt_ne {t : ByteArray} (h : t ≠ ⟨#[]⟩) : t.toList.isEmpty = false := by
 rw [baT]
 cases e : t.data.toList with
 | nil => exact absurd (baL (b := ⟨#[]⟩) (by rw [e])) h
 | cons x l => rfl
open Classical in
noncomputable def fitB (e : En) : Bool := decide (fitE e)
theorem fitB_t {e : En} (h : fitE e) : fitB e = true := by unfold fitB; simp [h]
theorem fitB_f {e : En} (h : ¬ fitE e) : fitB e = false := by unfold fitB; simp [h]
set_option maxRecDepth 20000 in
set_option maxHeartbeats 1000000 in
theorem iEntryFits (k : ByteArray) (q : Int) (g : Bool) (t : ByteArray) (hk : k.size ≤ 1048576) (ht : t.size ≤ 1048576) (w : World) :
 Calls Tryz.prog 64 #[.agg #[.string k, .int .i64 q, .bool g, .string t]] w fun e w' => e = .returned (.bool (fitB ⟨k, q, g, t⟩)) ∧ Below w.heap.size w w' := by
 have K := fun w => hid (iKeyFits k hk w); have F := hid (fitE_iff ⟨k, q, g, t⟩); obtain ⟨W0, hW0⟩ : ∃ W, W = w.alloc (.cells #[.string k, .int .i64 q, .bool g, .string t] 46) := ⟨_, rfl⟩; have A0 : RA W0 w.heap.size 46 #[.string k, .int .i64 q, .bool g, .string t] := by rw [hW0]; exact RA.new _ _ _
 have B0 : Hid (Below w.heap.size w W0) := by rw [hW0]; exact balEn (Below.refl _ _) _
 have a0 := A0.cell 0; have a1 := A0.cell 1; have a2 := A0.cell 2; have a3 := A0.cell 3; clear A0; have HW := hid hW0; clear hW0
 cases hkf : kFit k with
 | false =>
  rw [hkf] at K; have F1 : Hid (¬ fitE ⟨k, q, g, t⟩) := fun h => by have := (F.out.1 h).1; simp [hkf] at this
  go_enter Tryz.func64, Tryz.ntmps64
  go_upto_region 1 with fail
  rw [← HW.out]
  go_wp2_with fail
  refine (K _).out.mono ?_
  rintro e w1 ⟨rfl, rfl⟩
  go_wp2
  go_ret
  exact ⟨by rw [fitB_f F1.out]; rfl, B0.out⟩
 | true =>
 rw [hkf] at K
 by_cases h1 : 1 ≤ q
 · by_cases h2 : t.size ≤ 100000
   · have d2 : (t.size : Int) ≤ 100000 := by omega
     cases g with
     | false =>
      have F1 : Hid (fitE ⟨k, q, false, t⟩) := F.out.2 ⟨hkf, h1, h2, fun h => by cases h.1⟩
      go_enter Tryz.func64, Tryz.ntmps64
      go_upto_region 1 with fail
      rw [← HW.out]
      go_wp2_with fail
      refine (K _).out.mono ?_
      rintro e w1 ⟨rfl, rfl⟩
      go_wp2
      go_ret
      exact ⟨by rw [fitB_t F1.out]; rfl, B0.out⟩
     | true =>
      by_cases h3 : t = ⟨#[]⟩
      · subst h3
        have F1 : Hid (fitE ⟨k, q, true, ⟨#[]⟩⟩) := F.out.2 ⟨hkf, h1, h2, fun h => h.2 rfl⟩
        go_enter Tryz.func64, Tryz.ntmps64
        go_upto_region 1 with fail
        rw [← HW.out]
        go_wp2_with fail
        refine (K _).out.mono ?_
        rintro e w1 ⟨rfl, rfl⟩
        go_wp2
        go_ret
        exact ⟨by rw [fitB_t F1.out]; rfl, B0.out⟩
      · have d3 : t.toList.isEmpty = false := txt_ne h3
        have F1 : Hid (¬ fitE ⟨k, q, true, t⟩) := fun h => (F.out.1 h).2.2.2 ⟨rfl, h3⟩
        go_enter Tryz.func64, Tryz.ntmps64
        go_upto_region 1 with fail
        rw [← HW.out]
        go_wp2_with fail
        refine (K _).out.mono ?_
        rintro e w1 ⟨rfl, rfl⟩
        go_wp2
        go_ret
        exact ⟨by rw [fitB_f F1.out]; rfl, B0.out⟩
   · have d2 : ¬ (t.size : Int) ≤ 100000 := by omega
     have F1 : Hid (¬ fitE ⟨k, q, g, t⟩) := fun h => h2 (F.out.1 h).2.2.1
     go_enter Tryz.func64, Tryz.ntmps64
     go_upto_region 1 with fail
     rw [← HW.out]
     go_wp2_with fail
     refine (K _).out.mono ?_
     rintro e w1 ⟨rfl, rfl⟩
     go_wp2
     go_ret
     exact ⟨by rw [fitB_f F1.out]; rfl, B0.out⟩
 · have F1 : Hid (¬ fitE ⟨k, q, g, t⟩) := fun h => h1 (F.out.1 h).2.1
   go_enter Tryz.func64, Tryz.ntmps64
   go_upto_region 1 with fail
   rw [← HW.out]
   go_wp2_with fail
   refine (K _).out.mono ?_
   rintro e w1 ⟨rfl, rfl⟩
   go_wp2
   go_ret
   exact ⟨by rw [fitB_f F1.out]; rfl, B0.out⟩
end Go.Proofs.YtcbmgpdpjagaoaaGreat
namespace Go.Proofs.YtcbmgpdpjagaoaaGreat
open Go.RowKit
end Go.Proofs.YtcbmgpdpjagaoaaGreat
