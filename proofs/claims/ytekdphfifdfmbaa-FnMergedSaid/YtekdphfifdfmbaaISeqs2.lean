import Derived.Test.YtekdphfifdfmbaaISeqs
import Derived.Sort.OwnSortedInts
namespace Go.Proofs.Ytekdphfifdfmbaa
open Go.RowKit Go.Shelf
/-! Slices of runs; the Seqs of all their entries. -/
structure Rn where
  ad : Option Addr
  n : Nat
  cap : Nat
  o : Nat → En
/-- a slice of runs that is read -/
def Rns (w : World) (a : Option Addr) (m cap : Nat) (R : Nat → Rn) : Prop :=
  m ≤ cap ∧ (m = 0 ∨ ∃ b off, a = some ⟨b, off, none⟩ ∧ b < w.heap.size ∧ ∀ k, k < m → w.cell? ⟨b, off + k, none⟩ = some (.slice (R k).ad (R k).n (R k).cap)) ∧ ∀ k, k < m → Ens w (R k).ad (R k).n (R k).cap (R k).o
theorem Rns.below {w w' : World} {a : Option Addr} {m cap : Nat} {R : Nat → Rn} (h : Rns w a m cap R) (hb : Below w.heap.size w w') : Rns w' a m cap R := by
  refine ⟨h.1, ?_, fun k hk => (h.2.2 k hk).below hb⟩
  rcases h.2.1 with h0 | ⟨b, off, rfl, h1, h2⟩
  · exact Or.inl h0
  · exact Or.inr ⟨b, off, rfl, Nat.lt_of_lt_of_le h1 hb.size, fun k hk => (hb.cell (p := ⟨b, _, none⟩) h1).trans (h2 k hk)⟩
/-- how many entries -/
def cntR (R : Nat → Rn) : Nat → Nat
  | 0 => 0
  | k + 1 => cntR R k + (R k).n
theorem cntR_mono (R : Nat → Rn) {j k : Nat} (h : j ≤ k) : cntR R j ≤ cntR R k := by
  induction k with
  | zero => rw [Nat.le_zero.mp h]; exact Nat.le_refl _
  | succ k ih => rcases Nat.lt_or_ge j (k + 1) with h1 | h1
                 · have := ih (by omega); show _ ≤ cntR R k + _; omega
                 · rw [show j = k + 1 by omega]; exact Nat.le_refl _
/-- the Seqs of all -/
def sqA (R : Nat → Rn) : Nat → List Int
  | 0 => []
  | k + 1 => sqA R k ++ sqL (R k).o (R k).n
theorem sqA_len (R : Nat → Rn) : ∀ m, (sqA R m).length = cntR R m
  | 0 => rfl
  | k + 1 => by simp [sqA, cntR, sqA_len R k, sqL_len]
theorem OwnNums.wrR {w : World} {base : Nat} {e : TypeId} {k : IntKind} {g n cap : Nat} {xs : List Int} (h : OwnNums w base e k (.slice (some ⟨g, 0, none⟩) n cap) xs) (hn : 0 < n) : Wr k w g 0 xs ∧ base ≤ g ∧ xs.length = n ∧ n ≤ cap := by
  rcases h.2 with ⟨h1, _⟩ | ⟨g', cap', cur, he, hb, hr, hnc, hm, hsz, htk⟩
  · cases h1
  · cases he
    refine ⟨⟨cur, e, hr, by omega, fun i hi => ?_⟩, hb, rfl, hnc⟩
    have := congrArg (·[i]?) htk
    simp only [List.getElem?_take] at this
    rw [if_pos (by omega), List.getElem?_map, List.getElem?_eq_getElem hi] at this
    rw [Nat.zero_add, List.getD_eq_getElem?_getD, List.getElem?_eq_getElem hi]
    simpa using this
theorem own_intsR {w : World} {base : Nat} {e : TypeId} {k : IntKind} {v : Value} {xs : List Int} (h : OwnNums w base e k v xs) : ∃ a cap, v = .slice a xs.length cap ∧ Ints k w a xs.length cap xs ∧ xs.length ≤ cap := by
  rcases h.2 with ⟨rfl, h0⟩ | ⟨g, cap, cur, rfl, hg, hh, hn, hm, hsz, htk⟩
  · exact ⟨none, 0, by rw [h0], by rw [h0]; exact ⟨h0, Nat.le_refl _, Or.inl rfl⟩, by omega⟩
  · by_cases hx : 0 < xs.length
    · have := OwnNums.wrR h hx
      exact ⟨some ⟨g, 0, none⟩, cap, rfl, this.1.ints this.2.2.2, hn⟩
    · have h0 : xs.length = 0 := by omega
      exact ⟨some ⟨g, 0, none⟩, cap, rfl, by rw [h0]; exact ⟨h0, Nat.zero_le _, Or.inl rfl⟩, hn⟩
/-- One number, in a box of its own, is appended to a row that the call owns, as a step of a region. -/
theorem iSort {base : Nat} {v : Value} {xs : List Int} (w : World) (hl : xs.length < 4611686018427387904) (h : OwnNums w base 2 .i64 v xs) :
    Calls Try.prog 59 #[v] w fun e w' => e = .returned (.tuple #[]) ∧ OwnNums w' base 2 .i64 v (sortI xs) ∧ w.grownBy w' v.ownBlock := by
  have hlen : (sortI xs).length = xs.length := sortI_len xs
  rcases h.2 with ⟨h1, h2⟩ | ⟨g, cap, cur, he, hb, hr, hnc, hm, hsz, htk⟩
  · subst h1
    have hx : xs = [] := List.length_eq_zero_iff.1 (by omega)
    subst hx
    refine (AnyG.slices_Sort_int_none sortLays none 0 w).mono ?_
    rintro e w' ⟨rfl, rfl⟩
    refine ⟨rfl, ?_, below_grown (Below.refl _ _) _⟩
    rw [show sortI [] = [] from List.length_eq_zero_iff.1 hlen]
    exact h
  · subst he
    refine (AnyG.slices_Sort_int sortLays g 0 cap xs w (holds_of_blockI hr (by rw [← Nat.mul_one xs.length]; exact htk)) (Array.getElem?_eq_some_iff.1 hr).1 hl).mono ?_
    rintro e w' ⟨rfl, n, os, rfl⟩
    refine ⟨rfl, ?_, grownBy_sortedI _⟩
    have := ownsRow_sortedI (n := n) (os := os) (ss := xs) (ts := sortI xs) hlen hb hr hnc hm hsz
    unfold OwnNums
    rw [hlen]
    exact this
theorem OwnNums.al {w : World} {base : Nat} {e : TypeId} {k : IntKind} {v : Value} {xs : List Int} (h : OwnNums w base e k v xs) (o : Obj) : OwnNums (w.alloc o) base e k v xs := World.ownsRow.alloc h o
theorem oneEn4 (k : ByteArray) (q : Int) (g : Bool) (t : ByteArray) : (#[.string k, .int .i64 q, .bool g, .string t] : Array Value).all (·.oneCell') = true := by simp [Value.oneCell']
theorem oneSl (a : Option Addr) (n cap : Nat) : (#[.slice a n cap] : Array Value).all (·.oneCell') = true := by simp [Value.oneCell']
set_option maxRecDepth 20000 in
set_option maxHeartbeats 4000000 in
theorem iSeqsOf (a : Option Addr) (m cap : Nat) (R : Nat → Rn) (hc : cntR R m ≤ 1048576) (hm : m ≤ 1048576) (w : World) (h : Rns w a m cap R) :
    Calls Try.prog 37 #[.slice a m cap] w fun e w' => ∃ v, e = .returned v ∧ OwnNums w' w.heap.size 2 .i64 v (sortI (sqA R m)) ∧ Below w.heap.size w w' := by
  have HH := hid h
  have HC := hid hc
  clear h hc
  go_enter Try.func37, Try.ntmps37
  go_wp2_with fail
  go_loopw [10, 3] (fun q v wr => ∃ k : Nat, k ≤ m ∧ q = .int .i64 k ∧ OwnNums wr w.heap.size 2 .i64 v (sqA R k) ∧ Below w.heap.size w wr) (fun q _ _ => m - (intOf q).toNat)
  case atStart => exact ⟨0, Nat.zero_le _, rfl, World.ownsRow_nil _ _ _ _, Below.refl _ _⟩
  case round =>
    obtain ⟨k, hk, rfl, hO, hB⟩ := hrel
    have HO := hid hO
    have HB := hid hB
    clear hO hB
    by_cases hlt : k < m
    · have hlt' : (k : Int) < (m : Int) := by omega
      have k0 : (0 : Int) ≤ (k : Int) := by omega
      rcases (HH.out.below HB.out).2.1 with h00 | ⟨b, off, rfl, hbl, hcc⟩
      · omega
      have c0 := hcc k hlt
      have hE := hid (HH.out.2.2 k hlt)
      have hkm := cntR_mono R (show k + 1 ≤ m by omega)
      have hN : cntR R k + (R k).n ≤ 1048576 := Nat.le_trans hkm HC.out
      have hLk : Hid ((sqA R k).length + (R k).n ≤ 1048576) := by show _ ≤ _; rw [sqA_len]; exact hN
      obtain ⟨A, hA⟩ : ∃ v, v = (R k).ad := ⟨_, rfl⟩
      obtain ⟨N, hN'⟩ : ∃ v, v = (R k).n := ⟨_, rfl⟩
      obtain ⟨C, hC⟩ : ∃ v, v = (R k).cap := ⟨_, rfl⟩
      obtain ⟨o, ho⟩ : ∃ v, v = (R k).o := ⟨_, rfl⟩
      have HS : Hid (sqA R (k + 1) = sqA R k ++ sqL o N) := by show _ = _; rw [ho, hN']; rfl
      rw [← hA, ← hN', ← hC] at c0
      rw [← hA, ← hN', ← hC, ← ho] at hE
      rw [← hN'] at hN hLk
      have hNb : N ≤ 1048576 := by omega
      clear hcc hA hN' hC ho hN hkm
      obtain ⟨xs, hxs⟩ : ∃ xs, xs = sqA R k := ⟨_, rfl⟩
      rw [← hxs] at HO hLk HS
      clear hxs
      have B1 : Hid (Below w.heap.size w (wr.alloc (.cells #[.slice A N C] 28))) := HB.out.alloc HB.out.size _
      have O1 := hid (OwnNums.al HO.out (.cells #[.slice A N C] 28))
      have q1 := (RowAt.new wr 28 #[.slice A N C]).cell 0
      clear HO HB
      go_wp2_with ((refine wpList_store_row rfl 28 (.tmp 5) (.tmp 13) rfl wr.heap.size #[.slice A N C] rfl rfl _ _ (RowAt.new wr _ _) (by kernel_rfl) rfl (oneSl _ _ _) ?_); rw [World.setRow_alloc_new])
      obtain ⟨W1, hW1⟩ : ∃ W, W = wr.alloc (.cells #[.slice A N C] 28) := ⟨_, rfl⟩
      rw [← hW1] at B1 O1 ⊢
      clear hW1 q1 c0
      go_loopw [17, 3] (fun q v wx => ∃ j : Nat, j ≤ N ∧ q = .int .i64 j ∧ OwnNums wx w.heap.size 2 .i64 v (xs ++ sqL o j) ∧ Below w.heap.size w wx) (fun q _ _ => N - (intOf q).toNat)
      case atStart => exact ⟨0, Nat.zero_le _, rfl, by simpa [sqL] using O1.out, B1.out⟩
      case round =>
        obtain ⟨j, hj, rfl, hO, hB⟩ := hrel
        have JO := hid hO
        have JB := hid hB
        clear hO hB O1 B1
        by_cases hjl : j < N
        · have hjl' : (j : Int) < (N : Int) := by omega
          have j0 : (0 : Int) ≤ (j : Int) := by omega
          rcases (hE.out.below JB.out).2 with h00 | ⟨g, of, rfl, hgl, hcc⟩
          · omega
          obtain ⟨c0, c1, c2, c3⟩ := hcc j hjl
          have HS2 : Hid (xs ++ sqL o (j + 1) = xs ++ sqL o j ++ [(o j).sq]) := by show _ = _; rw [sqL_succ, List.append_assoc]
          obtain ⟨X0, hX0⟩ : ∃ v, v = (o j).ky := ⟨_, rfl⟩
          obtain ⟨X1, hX1⟩ : ∃ v, v = (o j).sq := ⟨_, rfl⟩
          obtain ⟨X2, hX2⟩ : ∃ v, v = (o j).gn := ⟨_, rfl⟩
          obtain ⟨X3, hX3⟩ : ∃ v, v = (o j).tx := ⟨_, rfl⟩
          rw [← hX0] at c0
          rw [← hX1] at c1 HS2
          rw [← hX2] at c2
          rw [← hX3] at c3
          clear hcc hX0 hX1 hX2 hX3
          have hlen : (xs ++ sqL o j).length ≤ 17592186044414 := by rw [List.length_append, sqL_len]; have := hLk.out; omega
          have HL := hid hlen
          clear hlen
          obtain ⟨ys, hys⟩ : ∃ ys, ys = xs ++ sqL o j := ⟨_, rfl⟩
          rw [← hys] at JO HS2 HL
          have B2 : Hid (Below w.heap.size w (wr.alloc (.cells #[.string X0, .int .i64 X1, .bool X2, .string X3] 34))) := JB.out.alloc JB.out.size _
          have O2 := hid (OwnNums.al JO.out (.cells #[.string X0, .int .i64 X1, .bool X2, .string X3] 34))
          have q1 := (RowAt.new wr 34 #[.string X0, .int .i64 X1, .bool X2, .string X3]).cell 1
          clear hys JO JB
          go_upto_region 8 with ((refine wpList_store_row rfl 34 (.tmp 7) (.tmp 20) rfl wr.heap.size #[.string X0, .int .i64 X1, .bool X2, .string X3] rfl rfl _ _ (RowAt.new wr _ _) (by kernel_rfl) rfl (oneEn4 _ _ _ _) ?_); rw [World.setRow_alloc_new])
          obtain ⟨W2, hW2⟩ : ∃ W, W = wr.alloc (.cells #[.string X0, .int .i64 X1, .bool X2, .string X3] 34) := ⟨_, rfl⟩
          rw [← hW2] at B2 O2 q1 ⊢
          clear hW2
          go_wp2_with (refine append_num w W2 (by rfl) (.tmp 21) (.tmp 24) 31 (by rfl) 2 .i64 8 Try.underlying31 Try.info64 (by decide) _ ys X1 (by rfl) O2.out B2.out (by rfl) HL.out ?_; intro v' w6 hown' hbel' hsome)
          go_roundw
          case rel => exact ⟨j + 1, by omega, by go_num, by rw [HS2.out]; exact hown', hbel'⟩
          case measure => simp [intOf]; omega
        · have hjl' : ¬ (j : Int) < (N : Int) := by omega
          have hje : j = N := by omega
          subst hje
          go_wp2
          go_roundw
          case rel => exact ⟨k + 1, by omega, by go_num, by rw [HS.out]; exact JO.out, JB.out⟩
          case measure => simp [intOf]; omega
    · have hlt' : ¬ (k : Int) < (m : Int) := by omega
      have hke : k = m := by omega
      subst hke
      have L1 : (sqA R k).length < 4611686018427387904 := by rw [sqA_len]; have := HC.out; omega
      have K := hid (iSort wr L1 HO.out)
      clear L1
      go_wp2_with fail
      refine K.out.mono ?_
      rintro e w6 ⟨rfl, hO6, hG6⟩
      have B6 : Hid (Below w.heap.size w w6) := HB.out.grown hG6 HB.out.size fun g hg => (World.ownsRow.lt HO.out g hg).1
      have O6 := hid hO6
      clear hO6 hG6 HO HB
      go_wp2
      go_ret
      exact ⟨_, rfl, O6.out, B6.out⟩
end Go.Proofs.Ytekdphfifdfmbaa
