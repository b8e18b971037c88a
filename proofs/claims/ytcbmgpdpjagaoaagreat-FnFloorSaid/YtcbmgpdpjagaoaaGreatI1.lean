import Derived.Test.YtcbmgpdpjagaoaaGreatG2
import Derived.Shelf.SortG.Plain
import Derived.Shelf.SortG.SortNone
import Derived.Test.YtcbmgpdpjagaoaaGreatG1
import Derived.Sort.OwnSortedInts
namespace Go.Proofs.YtcbmgpdpjagaoaaGreat
open Go.RowKit
open Classical in
noncomputable def ordB (n : Nat) (o : Nat → En) : Bool := decide (∀ k, 0 < k → k < n → ¬ enCmp (o k) (o (k - 1)) < 0)
theorem ordB_t {n : Nat} {o : Nat → En} (h : ∀ k, 0 < k → k < n → ¬ enCmp (o k) (o (k - 1)) < 0) : ordB n o = true := by unfold ordB; simp only [decide_eq_true_eq]; exact h
theorem ordB_f {n : Nat} {o : Nat → En} {k : Nat} (h0 : 0 < k) (hk : k < n) (h : enCmp (o k) (o (k - 1)) < 0) : ordB n o = false := by
 unfold ordB; simp only [decide_eq_false_iff_not]; exact fun q => q k h0 hk h
theorem ordB_iff (n : Nat) (o : Nat → En) : ordB n o = true ↔ ∀ k, 0 < k → k < n → ¬ enCmp (o k) (o (k - 1)) < 0 := by unfold ordB; simp only [decide_eq_true_eq]
set_option maxRecDepth 20000 in
set_option maxHeartbeats 2000000 in
theorem iSorted (a : Option Addr) (n cap : Nat) (o : Nat → En) (hn : n ≤ 1048576) (w : World) (h : Ens w a n cap o) :
 Calls Tryz.prog 65 #[.slice a n cap, .func (.func 63) #[] #[]] w fun e w' => e = .returned (.bool (ordB n o)) ∧ Below w.heap.size w w' := by
 have HH := hid h; clear h
 go_enter Tryz.func65, Tryz.ntmps65
 go_wp2_with fail
 go_loopw [5] (fun q wr => ∃ i : Int, q = .int .i64 i ∧ -1 ≤ i ∧ i < n ∧ (n = 0 ∨ 0 ≤ i) ∧ (∀ k : Nat, i < (k : Int) → k < n → 0 ≤ enCmp (o k) (o (k - 1))) ∧ Below w.heap.size w wr) (fun q _ => (intOf q).toNat)
 case atStart => exact ⟨_, rfl, by omega, by omega, by omega, fun k h1 h2 => absurd h1 (by omega), Below.refl _ _⟩
 case round =>
  obtain ⟨i, rfl, hi1, hin, hi0, hall, hB⟩ := hrel; have HB := hid hB; have HA := hid hall; clear hB hall
  by_cases hlt : 0 < i
  · obtain ⟨k, rfl⟩ : ∃ k : Nat, i = (k + 1 : Nat) := ⟨i.toNat - 1, by omega⟩
    have hkn : k + 1 < n := by omega
    rcases (HH.out.below HB.out).2 with h00 | ⟨b, off, rfl, hbl, hc⟩
    · omega
    obtain ⟨c0, c1, c2, c3⟩ := hc (k + 1) hkn; obtain ⟨e0, e1, e2, e3⟩ := hc k (by omega); have K := fun w => hid (iCmpE (o (k + 1)).ky (o (k + 1)).sq (o (k + 1)).gn (o (k + 1)).tx (o k).ky (o k).sq (o k).gn (o k).tx w); obtain ⟨V, hV⟩ : ∃ V, V = enCmp (o (k + 1)) (o k) := ⟨_, rfl⟩; have HV := hid hV; have K' : ∀ w, Hid (Calls Tryz.prog 63 #[.agg #[.string (o (k + 1)).ky, .int .i64 (o (k + 1)).sq, .bool (o (k + 1)).gn, .string (o (k + 1)).tx], .agg #[.string (o k).ky, .int .i64 (o k).sq, .bool (o k).gn, .string (o k).tx]] w fun e w' => e = .returned (.int .i64 V) ∧ Below w.heap.size w w') := fun w => by rw [hV]; exact K w
    clear K hV; obtain ⟨X0, hX0⟩ : ∃ v, v = (o (k + 1)).ky := ⟨_, rfl⟩; obtain ⟨X1, hX1⟩ : ∃ v, v = (o (k + 1)).sq := ⟨_, rfl⟩; obtain ⟨X2, hX2⟩ : ∃ v, v = (o (k + 1)).gn := ⟨_, rfl⟩; obtain ⟨X3, hX3⟩ : ∃ v, v = (o (k + 1)).tx := ⟨_, rfl⟩; obtain ⟨Y0, hY0⟩ : ∃ v, v = (o k).ky := ⟨_, rfl⟩; obtain ⟨Y1, hY1⟩ : ∃ v, v = (o k).sq := ⟨_, rfl⟩; obtain ⟨Y2, hY2⟩ : ∃ v, v = (o k).gn := ⟨_, rfl⟩; obtain ⟨Y3, hY3⟩ : ∃ v, v = (o k).tx := ⟨_, rfl⟩; rw [← hX0, ← hX1, ← hX2, ← hX3, ← hY0, ← hY1, ← hY2, ← hY3] at K'; rw [← hX0] at c0; rw [← hX1] at c1; rw [← hX2] at c2; rw [← hX3] at c3; rw [← hY0] at e0; rw [← hY1] at e1; rw [← hY2] at e2; rw [← hY3] at e3; clear hc hX0 hX1 hX2 hX3 hY0 hY1 hY2 hY3; obtain ⟨m, hm⟩ : ∃ m, m = k + 1 := ⟨_, rfl⟩; rw [← hm] at c0 c1 c2 c3 hlt hin hi1 hkn ⊢; have m0 : (0 : Int) ≤ (m : Int) := by omega
    have m1 : (m : Int) < (n : Int) := by omega
    have m2 : (m : Int) - 1 = (k : Int) := by omega
    have m3 : (0 : Int) ≤ (k : Int) := by omega
    have m4 : (k : Int) < (n : Int) := by omega
    have m5 : IntKind.i64.wrap ((m : Int) - 1) = (k : Int) := by rw [m2]; simp [IntKind.wrap, IntKind.bits, IntKind.signed]; omega
    have HM := hid hm; clear hm m2
    go_wp2_with fail
    go_region_held3 (fun wx => (wx.cell? ⟨b, off + m * 4, none⟩ = some (.string X0) ∧ wx.cell? ⟨b, off + m * 4 + 1, none⟩ = some (.int .i64 X1) ∧ wx.cell? ⟨b, off + m * 4 + 2, none⟩ = some (.bool X2) ∧ wx.cell? ⟨b, off + m * 4 + 3, none⟩ = some (.string X3)) ∧ wx.cell? ⟨b, off + k * 4, none⟩ = some (.string Y0) ∧ wx.cell? ⟨b, off + k * 4 + 1, none⟩ = some (.int .i64 Y1) ∧ wx.cell? ⟨b, off + k * 4 + 2, none⟩ = some (.bool Y2) ∧ wx.cell? ⟨b, off + k * 4 + 3, none⟩ = some (.string Y3))
     (first | exact ⟨⟨c0, c1, c2, c3⟩, e0, e1, e2, e3⟩ | exact ⟨⟨(hb2.cell hbl).trans c0, (hb2.cell hbl).trans c1, (hb2.cell hbl).trans c2, (hb2.cell hbl).trans c3⟩, (hb2.cell hbl).trans e0, (hb2.cell hbl).trans e1, (hb2.cell hbl).trans e2, (hb2.cell hbl).trans e3⟩)
     ((go_at_call 63; refine (K' _).out.mono ?_; rintro e w2 ⟨rfl, hb2⟩))
    have N2 := hid (HB.out.drew.trans (hb2.mono HB.out.size)); clear hb2 c0 c1 c2 c3 e0 e1 e2 e3 HB
    by_cases hv : V < 0
    · have E : Hid (ordB n o = false) := ordB_f (k := m) (by omega) hkn (by rw [HM.out]; rw [HV.out] at hv; exact hv)
      go_wp2
      go_ret
      exact ⟨by rw [E.out]; rfl, N2.out⟩
    · have E : Hid (∀ j : Nat, (k : Int) < (j : Int) → j < n → 0 ≤ enCmp (o j) (o (j - 1))) := fun j h1 h2 => by
       have hm := HM.out
       by_cases e : j = k + 1
       · subst e; rw [HV.out] at hv; exact Int.not_lt.1 hv
       · exact HA.out j (by omega) h2
      go_wp2
      go_roundw
      case rel => exact ⟨(k : Int), by rfl, by omega, by omega, by omega, E.out, N2.out⟩
      case measure => have hm := HM.out; simp [intOf]; omega
  · have E : Hid (ordB n o = true) := ordB_t fun k h0 hk => Int.not_lt.2 (HA.out k (by omega) hk)
    go_wp2
    go_ret
    exact ⟨by rw [E.out]; rfl, HB.out⟩
end Go.Proofs.YtcbmgpdpjagaoaaGreat
namespace Go.Proofs.YtcbmgpdpjagaoaaGreat
open Go.RowKit Go.Shelf
def sortRen : Ren := ⟨fun x => if x = 53 then 53 else if x = 59 then 86 else if x = 63 then 66 else if x = 64 then 67 else if x = 68 then 106 else if x = 70 then 80 else if x = 71 then 81 else if x = 72 then 82 else if x = 73 then 83 else if x = 74 then 84 else if x = 75 then 85 else if x = 76 then 87 else if x = 77 then 88 else if x = 78 then 89 else if x = 79 then 90 else if x = 88 then 101 else if x = 89 then 102 else if x = 90 then 103 else if x = 91 then 104 else if x = 92 then 105 else if x = 96 then 117 else x, fun x => if x = 0 then 0 else if x = 3 then 3 else if x = 4 then 4 else if x = 5 then 5 else if x = 9 then 9 else if x = 22 then 59 else if x = 23 then 2 else if x = 44 then 129 else if x = 51 then 104 else if x = 60 then 123 else if x = 61 then 124 else if x = 67 then 132 else if x = 69 then 134 else if x = 75 then 150 else if x = 79 then 154 else if x = 83 then 164 else if x = 84 then 165 else x, fun x => x⟩
theorem sortLays : SlLaysN.n53 Tryz.prog sortRen := { mixed := by kernel_rfl, f53 := ⟨ "slices.Sort[[]int64,int64]", by decide, by kernel_rfl⟩, f59 := ⟨ "cmp.Less[int64]", by decide, by kernel_rfl⟩, f63 := ⟨ "slices.pdqsortOrdered[int64]", by decide, by kernel_rfl⟩, f64 := by kernel_rfl, f68 := ⟨ "cmp.isNaN[int64]", by decide, by kernel_rfl⟩, f70 := ⟨ "slices.insertionSortOrdered[int64]", by decide, by kernel_rfl⟩, f71 := ⟨ "slices.heapSortOrdered[int64]", by decide, by kernel_rfl⟩, f72 := ⟨ "slices.breakPatternsOrdered[int64]", by decide, by kernel_rfl⟩, f73 := ⟨ "slices.choosePivotOrdered[int64]", by decide, by kernel_rfl⟩, f74 := ⟨ "slices.reverseRangeOrdered[int64]", by decide, by kernel_rfl⟩, f75 := ⟨ "slices.partialInsertionSortOrdered[int64]", by decide, by kernel_rfl⟩, f76 := ⟨ "slices.partitionEqualOrdered[int64]", by decide, by kernel_rfl⟩, f77 := ⟨ "slices.partitionOrdered[int64]", by decide, by kernel_rfl⟩, f78 := by kernel_rfl, f79 := by kernel_rfl, f88 := ⟨ "slices.siftDownOrdered[int64]", by decide, by kernel_rfl⟩, f89 := by kernel_rfl, f90 := by kernel_rfl, f91 := ⟨ "slices.medianAdjacentOrdered[int64]", by decide, by kernel_rfl⟩, f92 := ⟨ "slices.medianOrdered[int64]", by decide, by kernel_rfl⟩, f96 := ⟨ "slices.order2Ordered[int64]", by decide, by kernel_rfl⟩, t0 := by kernel_rfl, a0 := fun _ => by kernel_rfl, z0 := fun _ => by kernel_rfl, v0 := fun _ => by kernel_rfl, t3 := by kernel_rfl, a3 := fun _ => by kernel_rfl, z3 := fun _ => by kernel_rfl, v3 := fun _ => by kernel_rfl, t4 := by kernel_rfl, a4 := fun _ => by kernel_rfl, z4 := fun _ => by kernel_rfl, v4 := fun _ => by kernel_rfl, t5 := by kernel_rfl, a5 := fun _ => by kernel_rfl, z5 := fun _ => by kernel_rfl, v5 := fun _ => by kernel_rfl, t9 := by kernel_rfl, a9 := fun _ => by kernel_rfl, z9 := fun _ => by kernel_rfl, v9 := fun _ => by kernel_rfl, t22 := by kernel_rfl, a22 := fun _ => by kernel_rfl, z22 := fun _ => by kernel_rfl, v22 := fun _ => by kernel_rfl, t23 := by kernel_rfl, a23 := fun _ => by kernel_rfl, z23 := fun _ => by kernel_rfl, v23 := fun _ => by kernel_rfl, t44 := by kernel_rfl, a44 := fun _ => by kernel_rfl, z44 := fun _ => by kernel_rfl, v44 := fun _ => by kernel_rfl, t51 := by kernel_rfl, a51 := fun _ => by kernel_rfl, z51 := fun _ => by kernel_rfl, v51 := fun _ => by kernel_rfl, t60 := by kernel_rfl, a60 := fun _ => by kernel_rfl, z60 := fun _ => by kernel_rfl, v60 := fun _ => by kernel_rfl, t61 := by kernel_rfl, a61 := fun _ => by kernel_rfl, z61 := fun _ => by kernel_rfl, v61 := fun _ => by kernel_rfl, t67 := by kernel_rfl, a67 := fun _ => by kernel_rfl, z67 := fun _ => by kernel_rfl, v67 := fun _ => by kernel_rfl, t69 := by kernel_rfl, a69 := fun _ => by kernel_rfl, z69 := fun _ => by kernel_rfl, v69 := fun _ => by kernel_rfl, t75 := by kernel_rfl, a75 := fun _ => by kernel_rfl, z75 := fun _ => by kernel_rfl, v75 := fun _ => by kernel_rfl, t79 := by kernel_rfl, a79 := fun _ => by kernel_rfl, z79 := fun _ => by kernel_rfl, v79 := fun _ => by kernel_rfl, t83 := by kernel_rfl, a83 := fun _ => by kernel_rfl, z83 := fun _ => by kernel_rfl, v83 := fun _ => by kernel_rfl, t84 := by kernel_rfl, a84 := fun _ => by kernel_rfl, z84 := fun _ => by kernel_rfl, v84 := fun _ => by kernel_rfl }
end Go.Proofs.YtcbmgpdpjagaoaaGreat
namespace Go.Proofs.YtcbmgpdpjagaoaaGreat
open Go.RowKit Go.Shelf
open Classical in
noncomputable def riseB (l : List Int) : Bool := decide (rise l)
theorem riseB_t {l : List Int} (h : rise l) : riseB l = true := by unfold riseB; simp only [decide_eq_true_eq]; exact h
theorem riseB_f {l : List Int} (h : ¬ rise l) : riseB l = false := by unfold riseB; simp only [decide_eq_false_iff_not]; exact h
theorem riseB_iff (l : List Int) : riseB l = true ↔ rise l := by unfold riseB; simp only [decide_eq_true_eq]
theorem below_dN {n : Nat} {w X : World} (h : Below n w X) (k : Nat) : Below n w (X.drewN k) := ⟨h.os, h.tape, h.output, h.size, h.block⟩
set_option maxRecDepth 20000 in
set_option maxHeartbeats 1000000 in
theorem iRises (a : Option Addr) (n cap : Nat) (xs : List Int) (hn : n ≤ 1048576) (w : World) (h : Ints .i64 w a n cap xs) :
 Calls Tryz.prog 30 #[.slice a n cap] w fun e w' => e = .returned (.bool (riseB xs)) ∧ Below w.heap.size w w' := by
 have hx := h.1; have HH := hid h; clear h
 go_enter Tryz.func30, Tryz.ntmps30
 go_wp2_with fail
 go_loopw [3] (fun q wr => ∃ k : Nat, 1 ≤ k ∧ (k ≤ n ∨ k = 1) ∧ q = .int .i64 k ∧ (∀ i, 0 < i → i < k → i < n → xs.getD (i - 1) 0 < xs.getD i 0) ∧ Below w.heap.size w wr) (fun q _ => n - (intOf q).toNat)
 case atStart => exact ⟨1, Nat.le_refl _, .inr rfl, rfl, fun i h1 h2 => absurd h2 (by omega), Below.refl _ _⟩
 case round =>
  obtain ⟨k, hk1, hkn, rfl, hall, hB⟩ := hrel; have HB := hid hB; have HA := hid hall; clear hB hall
  by_cases hlt : k < n
  · have hlt' : (k : Int) < (n : Int) := by omega
    have k0 : (0 : Int) ≤ (k : Int) := by omega
    rcases (HH.out.below HB.out).2.2 with q0 | ⟨b, off, rfl, hbl, hc⟩
    · omega
    obtain ⟨m, hm⟩ : ∃ m : Nat, m = k - 1 := ⟨_, rfl⟩; have c0 := hc k hlt; have c1 := hc m (by omega); have m2 : (k : Int) - 1 = (m : Int) := by omega
    have m3 : (0 : Int) ≤ (m : Int) := by omega
    have m4 : (m : Int) < (n : Int) := by omega
    have m5 : IntKind.i64.wrap ((k : Int) - 1) = (m : Int) := by rw [m2]; simp [IntKind.wrap, IntKind.bits, IntKind.signed]; omega
    have HM := hid hm; obtain ⟨X, hX⟩ : ∃ X, X = xs.getD k 0 := ⟨_, rfl⟩; obtain ⟨Y, hY⟩ : ∃ X, X = xs.getD m 0 := ⟨_, rfl⟩; rw [← hX] at c0; rw [← hY] at c1; have HX := hid hX; have HY := hid hY; clear hc hX hY hm m2
    by_cases hv : X ≤ Y
    · have E : Hid (riseB xs = false) := riseB_f fun h => by
       have := h k (by omega) (by omega); rw [← HX.out, show k - 1 = m from HM.out.symm, ← HY.out] at this
       omega
      go_wp2
      go_quiet (fail)
      go_wp2
      go_ret
      exact ⟨by rw [E.out]; rfl, below_dN HB.out _⟩
    · have E : Hid (∀ i, 0 < i → i < k + 1 → i < n → xs.getD (i - 1) 0 < xs.getD i 0) := fun i h0 h1 h2 => by
       by_cases e : i = k
       · subst e; rw [← HX.out, show i - 1 = m from HM.out.symm, ← HY.out]; omega
       · exact HA.out i h0 (by omega) h2
      go_wp2
      go_quiet (fail)
      go_wp2
      go_roundw
      case rel => exact ⟨k + 1, by omega, by omega, by go_num, E.out, below_dN HB.out _⟩
      case measure => simp [intOf]; omega
  · have hlt' : ¬ (k : Int) < (n : Int) := by omega
    have E : Hid (riseB xs = true) := riseB_t fun i h0 hi => HA.out i h0 (by omega) (by omega)
    go_wp2
    go_ret
    exact ⟨by rw [E.out]; rfl, HB.out⟩
end Go.Proofs.YtcbmgpdpjagaoaaGreat
namespace Go.Proofs.YtcbmgpdpjagaoaaGreat
open Go.RowKit Go.Shelf
structure Rn where
 ad : Option Addr
 n : Nat
 cap : Nat
 o : Nat → En
def Rns (w : World) (a : Option Addr) (m cap : Nat) (R : Nat → Rn) : Prop :=
 m ≤ cap ∧ (m = 0 ∨ ∃ b off, a = some ⟨b, off, none⟩ ∧ b < w.heap.size ∧ ∀ k, k < m → w.cell? ⟨b, off + k, none⟩ = some (.slice (R k).ad (R k).n (R k).cap)) ∧ ∀ k, k < m → Ens w (R k).ad (R k).n (R k).cap (R k).o
theorem Rns.below {w w' : World} {a : Option Addr} {m cap : Nat} {R : Nat → Rn} (h : Rns w a m cap R) (hb : Below w.heap.size w w') : Rns w' a m cap R := by
 refine ⟨h.1, ?_, fun k hk => (h.2.2 k hk).below hb⟩
 rcases h.2.1 with h0 | ⟨b, off, rfl, h1, h2⟩
 · exact Or.inl h0
 · exact Or.inr ⟨b, off, rfl, Nat.lt_of_lt_of_le h1 hb.size, fun k hk => (hb.cell (p := ⟨b, _, none⟩) h1).trans (h2 k hk)⟩
def cntR (R : Nat → Rn) : Nat → Nat
 | 0 => 0
 | k + 1 => cntR R k + (R k).n
theorem cntR_mono (R : Nat → Rn) {j k : Nat} (h : j ≤ k) : cntR R j ≤ cntR R k := by
 induction k with
 | zero => rw [Nat.le_zero.mp h]; exact Nat.le_refl _
 | succ k ih => rcases Nat.lt_or_ge j (k + 1) with h1 | h1
                · have := ih (by omega); show _ ≤ cntR R k + _; omega
                · rw [show j = k + 1 by omega]; exact Nat.le_refl _
def sqA (R : Nat → Rn) : Nat → List Int
 | 0 => []
 | k + 1 => sqA R k ++ sqL (R k).o (R k).n
theorem sqA_len (R : Nat → Rn) : ∀ m, (sqA R m).length = cntR R m
 | 0 => rfl
 | k + 1 => by simp [sqA, cntR, sqA_len R k, sqL_len]
theorem OwnNums.wrR {w : World} {base : Nat} {e : TypeId} {k : IntKind} {g n cap : Nat} {xs : List Int} (h : OwnNums w base e k (.slice (some ⟨g, 0, none⟩) n cap) xs) (hn : 0 < n) : Wr k w g 0 xs ∧ base ≤ g ∧ xs.length = n ∧ n ≤ cap := by
 rcases h.2 with ⟨h1, _⟩ | ⟨g', cap', cur, he, hb, hr, hnc, hm, hsz, htk⟩
 · cases h1
 · cases he
   refine ⟨⟨cur, e, hr, by omega, fun i hi => ?_⟩, hb, rfl, hnc⟩; have := congrArg (·[i]?) htk; simp only [List.getElem?_take] at this; rw [if_pos (by omega), List.getElem?_map, List.getElem?_eq_getElem hi] at this; rw [Nat.zero_add, List.getD_eq_getElem?_getD, List.getElem?_eq_getElem hi]
   simpa using this
theorem own_intsR {w : World} {base : Nat} {e : TypeId} {k : IntKind} {v : Value} {xs : List Int} (h : OwnNums w base e k v xs) : ∃ a cap, v = .slice a xs.length cap ∧ Ints k w a xs.length cap xs ∧ xs.length ≤ cap := by
 rcases h.2 with ⟨rfl, h0⟩ | ⟨g, cap, cur, rfl, hg, hh, hn, hm, hsz, htk⟩
 · exact ⟨none, 0, by rw [h0], by rw [h0]; exact ⟨h0, Nat.le_refl _, Or.inl rfl⟩, by omega⟩
 · by_cases hx : 0 < xs.length
   · have := OwnNums.wrR h hx
     exact ⟨some ⟨g, 0, none⟩, cap, rfl, this.1.ints this.2.2.2, hn⟩
   · have h0 : xs.length = 0 := by omega
     exact ⟨some ⟨g, 0, none⟩, cap, rfl, by rw [h0]; exact ⟨h0, Nat.zero_le _, Or.inl rfl⟩, hn⟩
theorem iSort {base : Nat} {v : Value} {xs : List Int} (w : World) (hl : xs.length < 4611686018427387904) (h : OwnNums w base 2 .i64 v xs) :
 Calls Tryz.prog 53 #[v] w fun e w' => e = .returned (.tuple #[]) ∧ OwnNums w' base 2 .i64 v (sortI xs) ∧ w.grownBy w' v.ownBlock := by
 have hlen : (sortI xs).length = xs.length := sortI_len xs
 rcases h.2 with ⟨h1, h2⟩ | ⟨g, cap, cur, he, hb, hr, hnc, hm, hsz, htk⟩
 · subst h1
   have hx : xs = [] := List.length_eq_zero_iff.1 (by omega); subst hx; refine (AnyG.slices_Sort_int_none sortLays none 0 w).mono ?_
   rintro e w' ⟨rfl, rfl⟩
   refine ⟨rfl, ?_, below_grown (Below.refl _ _) _⟩; rw [show sortI [] = [] from List.length_eq_zero_iff.1 hlen]; exact h
 · subst he
   refine (AnyG.slices_Sort_int sortLays g 0 cap xs w (holds_of_blockI hr (by rw [← Nat.mul_one xs.length]; exact htk)) (Array.getElem?_eq_some_iff.1 hr).1 hl).mono ?_
   rintro e w' ⟨rfl, n, os, rfl⟩
   refine ⟨rfl, ?_, grownBy_sortedI _⟩; have := ownsRow_sortedI (n := n) (os := os) (ss := xs) (ts := sortI xs) hlen hb hr hnc hm hsz; unfold OwnNums; rw [hlen]; exact this
theorem OwnNums.al {w : World} {base : Nat} {e : TypeId} {k : IntKind} {v : Value} {xs : List Int} (h : OwnNums w base e k v xs) (o : Obj) : OwnNums (w.alloc o) base e k v xs := World.ownsRow.alloc h o
theorem oneEn4 (k : ByteArray) (q : Int) (g : Bool) (t : ByteArray) : (#[.string k, .int .i64 q, .bool g, .string t] : Array Value).all (·.oneCell') = true := by simp [Value.oneCell']
theorem oneSl (a : Option Addr) (n cap : Nat) : (#[.slice a n cap] : Array Value).all (·.oneCell') = true := by simp [Value.oneCell']
set_option maxRecDepth 20000 in
set_option maxHeartbeats 4000000 in
theorem iSeqsOf (a : Option Addr) (m cap : Nat) (R : Nat → Rn) (hc : cntR R m ≤ 1048576) (hm : m ≤ 1048576) (w : World) (h : Rns w a m cap R) :
 Calls Tryz.prog 29 #[.slice a m cap] w fun e w' => ∃ v, e = .returned v ∧ OwnNums w' w.heap.size 2 .i64 v (sortI (sqA R m)) ∧ Below w.heap.size w w' := by
 have HH := hid h; have HC := hid hc; clear h hc
 go_enter Tryz.func29, Tryz.ntmps29
 go_wp2_with fail
 go_loopw [10, 3] (fun q v wr => ∃ k : Nat, k ≤ m ∧ q = .int .i64 k ∧ OwnNums wr w.heap.size 2 .i64 v (sqA R k) ∧ Below w.heap.size w wr) (fun q _ _ => m - (intOf q).toNat)
 case atStart => exact ⟨0, Nat.zero_le _, rfl, World.ownsRow_nil _ _ _ _, Below.refl _ _⟩
 case round =>
  obtain ⟨k, hk, rfl, hO, hB⟩ := hrel; have HO := hid hO; have HB := hid hB; clear hO hB
  by_cases hlt : k < m
  · have hlt' : (k : Int) < (m : Int) := by omega
    have k0 : (0 : Int) ≤ (k : Int) := by omega
    rcases (HH.out.below HB.out).2.1 with h00 | ⟨b, off, rfl, hbl, hcc⟩
    · omega
    have c0 := hcc k hlt; have hE := hid (HH.out.2.2 k hlt); have hkm := cntR_mono R (show k + 1 ≤ m by omega); have hN : cntR R k + (R k).n ≤ 1048576 := Nat.le_trans hkm HC.out; have hLk : Hid ((sqA R k).length + (R k).n ≤ 1048576) := by show _ ≤ _; rw [sqA_len]; exact hN
    obtain ⟨A, hA⟩ : ∃ v, v = (R k).ad := ⟨_, rfl⟩; obtain ⟨N, hN'⟩ : ∃ v, v = (R k).n := ⟨_, rfl⟩; obtain ⟨C, hC⟩ : ∃ v, v = (R k).cap := ⟨_, rfl⟩; obtain ⟨o, ho⟩ : ∃ v, v = (R k).o := ⟨_, rfl⟩; have HS : Hid (sqA R (k + 1) = sqA R k ++ sqL o N) := by show _ = _; rw [ho, hN']; rfl
    rw [← hA, ← hN', ← hC] at c0; rw [← hA, ← hN', ← hC, ← ho] at hE; rw [← hN'] at hN hLk; have hNb : N ≤ 1048576 := by omega
    clear hcc hA hN' hC ho hN hkm; obtain ⟨xs, hxs⟩ : ∃ xs, xs = sqA R k := ⟨_, rfl⟩; rw [← hxs] at HO hLk HS; clear hxs; have B1 : Hid (Below w.heap.size w (wr.alloc (.cells #[.slice A N C] 25))) := HB.out.alloc HB.out.size _; have O1 := hid (OwnNums.al HO.out (.cells #[.slice A N C] 25)); have q1 := (RA.new wr 25 #[.slice A N C]).cell 0; clear HO HB
    go_wp2_with ((refine wpList_store_row rfl 25 (.tmp 5) (.tmp 13) rfl wr.heap.size #[.slice A N C] rfl rfl _ _ (RA.new wr _ _) (by kernel_rfl) rfl (oneSl _ _ _) ?_); rw [World.setRow_alloc_new])
    obtain ⟨W1, hW1⟩ : ∃ W, W = wr.alloc (.cells #[.slice A N C] 25) := ⟨_, rfl⟩; rw [← hW1] at B1 O1 ⊢; clear hW1 q1 c0
    go_loopw [17, 3] (fun q v wx => ∃ j : Nat, j ≤ N ∧ q = .int .i64 j ∧ OwnNums wx w.heap.size 2 .i64 v (xs ++ sqL o j) ∧ Below w.heap.size w wx) (fun q _ _ => N - (intOf q).toNat)
    case atStart => exact ⟨0, Nat.zero_le _, rfl, by simpa [sqL] using O1.out, B1.out⟩
    case round =>
     obtain ⟨j, hj, rfl, hO, hB⟩ := hrel; have JO := hid hO; have JB := hid hB; clear hO hB O1 B1
     by_cases hjl : j < N
     · have hjl' : (j : Int) < (N : Int) := by omega
       have j0 : (0 : Int) ≤ (j : Int) := by omega
       rcases (hE.out.below JB.out).2 with h00 | ⟨g, of, rfl, hgl, hcc⟩
       · omega
       obtain ⟨c0, c1, c2, c3⟩ := hcc j hjl; have HS2 : Hid (xs ++ sqL o (j + 1) = xs ++ sqL o j ++ [(o j).sq]) := by show _ = _; rw [sqL_succ, List.append_assoc]
       obtain ⟨X0, hX0⟩ : ∃ v, v = (o j).ky := ⟨_, rfl⟩; obtain ⟨X1, hX1⟩ : ∃ v, v = (o j).sq := ⟨_, rfl⟩; obtain ⟨X2, hX2⟩ : ∃ v, v = (o j).gn := ⟨_, rfl⟩; obtain ⟨X3, hX3⟩ : ∃ v, v = (o j).tx := ⟨_, rfl⟩; rw [← hX0] at c0; rw [← hX1] at c1 HS2; rw [← hX2] at c2; rw [← hX3] at c3; clear hcc hX0 hX1 hX2 hX3; have hlen : (xs ++ sqL o j).length ≤ 17592186044414 := by rw [List.length_append, sqL_len]; have := hLk.out; omega
       have HL := hid hlen; clear hlen; obtain ⟨ys, hys⟩ : ∃ ys, ys = xs ++ sqL o j := ⟨_, rfl⟩; rw [← hys] at JO HS2 HL; have B2 : Hid (Below w.heap.size w (wr.alloc (.cells #[.string X0, .int .i64 X1, .bool X2, .string X3] 46))) := JB.out.alloc JB.out.size _; have O2 := hid (OwnNums.al JO.out (.cells #[.string X0, .int .i64 X1, .bool X2, .string X3] 46)); have q1 := (RA.new wr 46 #[.string X0, .int .i64 X1, .bool X2, .string X3]).cell 1; clear hys JO JB
       go_upto_region 8 with ((refine wpList_store_row rfl 46 (.tmp 7) (.tmp 20) rfl wr.heap.size #[.string X0, .int .i64 X1, .bool X2, .string X3] rfl rfl _ _ (RA.new wr _ _) (by kernel_rfl) rfl (oneEn4 _ _ _ _) ?_); rw [World.setRow_alloc_new])
       obtain ⟨W2, hW2⟩ : ∃ W, W = wr.alloc (.cells #[.string X0, .int .i64 X1, .bool X2, .string X3] 46) := ⟨_, rfl⟩; rw [← hW2] at B2 O2 q1 ⊢; clear hW2
       go_wp2_with (refine append_num w W2 (by rfl) (.tmp 21) (.tmp 24) 59 (by rfl) 2 .i64 8 Tryz.underlying59 Tryz.info64 (by decide) _ ys X1 (by rfl) O2.out B2.out (by rfl) HL.out ?_; intro v' w6 hown' hbel' hsome)
       go_roundw
       case rel => exact ⟨j + 1, by omega, by go_num, by rw [HS2.out]; exact hown', hbel'⟩
       case measure => simp [intOf]; omega
     · have hjl' : ¬ (j : Int) < (N : Int) := by omega
       have hje : j = N := by omega
       subst hje
       go_wp2
       go_roundw
       case rel => exact ⟨k + 1, by omega, by go_num, by rw [HS.out]; exact JO.out, JB.out⟩
       case measure => simp [intOf]; omega
  · have hlt' : ¬ (k : Int) < (m : Int) := by omega
    have hke : k = m := by omega
    subst hke; have L1 : (sqA R k).length < 4611686018427387904 := by rw [sqA_len]; have := HC.out; omega
    have K := hid (iSort wr L1 HO.out); clear L1
    go_wp2_with fail
    refine K.out.mono ?_
    rintro e w6 ⟨rfl, hO6, hG6⟩
    have B6 : Hid (Below w.heap.size w w6) := HB.out.grown hG6 HB.out.size fun g hg => (World.ownsRow.lt HO.out g hg).1; have O6 := hid hO6; clear hO6 hG6 HO HB
    go_wp2
    go_ret
    exact ⟨_, rfl, O6.out, B6.out⟩
end Go.Proofs.YtcbmgpdpjagaoaaGreat
