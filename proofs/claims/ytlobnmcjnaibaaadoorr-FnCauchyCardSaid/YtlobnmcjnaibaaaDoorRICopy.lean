import Derived.Test.YtlobnmcjnaibaaaDoorRIElim
import Derived.Laws.CopyOwn
import Derived.DeepKeys
namespace Go.Proofs.YtlobnmcjnaibaaaDoorR
open Go.RowKit
/-- the bytes with others laid over them from o on -/
def layN (zs : List Nat) (o n : Nat) (fs : Nat → Nat) (p : Nat) : Nat := if o ≤ p ∧ p < o + n then fs (p - o) else zs.getD p 0
theorem grown_setRow (w : World) (g : Nat) (c : Array Value) : w.grownBy (w.setRow g c) (some g) :=
  ⟨rfl, rfl, rfl, by rw [setRow_size]; exact Nat.le_refl _, fun k _ hne => setRow_other w g k c (by intro e; exact hne (by rw [e]))⟩
theorem splice_getD (zs : List Nat) (o n : Nat) (fs : Nat → Nat) (hf : o + n ≤ zs.length) (p : Nat) : (zs.take o ++ (List.range n).map fs ++ zs.drop (o + n)).getD p 0 = layN zs o n fs p := by
  unfold layN
  rw [List.getD_eq_getElem?_getD, List.append_assoc]
  have l1 : (zs.take o).length = o := by rw [List.length_take]; omega
  have l2 : ((List.range n).map fs).length = n := by simp
  by_cases h1 : p < o
  · rw [List.getElem?_append_left (by omega), List.getElem?_take, if_pos h1, if_neg (by omega), List.getD_eq_getElem?_getD]
  · rw [List.getElem?_append_right (by omega), l1]
    by_cases h2 : p < o + n
    · rw [List.getElem?_append_left (by omega), if_pos (by omega)]
      simp [show p - o < n by omega]
    · rw [List.getElem?_append_right (by omega), l2, List.getElem?_drop, if_neg (by omega), show o + n + (p - o - n) = p by omega, List.getD_eq_getElem?_getD]
/-- 'copy' between bytes, as a step of a region that draws its order. -/
theorem step_copy8 {ops : Array Oper} {o : Oper} {a : Act} {w : World} {K : Act → World → Prop} {Q : Exit → Act → World → Prop} {E : Prop} (hgd : o.guard = none) (d s : Operand)
    (ho : o.op = .call { callee := .builtin .copy, args := #[d, s], argTypes := #[22, 22] })
    (g off dLen dCap g2 off2 sLen sCap : Nat) (hd : a.eval d = .slice (some ⟨g, off, none⟩) dLen dCap) (hs : a.eval s = .slice (some ⟨g2, off2, none⟩) sLen sCap)
    (t : TypeId) (zs : List Nat) (hz : RowAt w g t (cells8 zs)) (n : Nat) (hn : n = Nat.min sLen dLen) (fs : Nat → Nat) (hsrc : ∀ k, k < n → w.cell? ⟨g2, off2 + k, none⟩ = some (.int .u8 ((fs k : Nat) : Int))) (hfit : off + n ≤ zs.length)
    (h : ∀ w' zs', RowAt w' g t (cells8 zs') → zs'.length = zs.length → (∀ p, zs'.getD p 0 = layN zs off n fs p) → w.grownBy w' (some g) → K (a.put o.dst (goInt n)) w') :
    if Region.wanted o (yielded ops a.tmps) = true then Oper.wp Tryd.prog o a w K Q else E := by
  have hw : Region.wanted o (yielded ops a.tmps) = true := by simp [Region.wanted, hgd]
  rw [if_pos hw]
  obtain ⟨cs, hcs⟩ : ∃ cs : List Value, cs = (List.range n).map fun k => Value.int .u8 ((fs k : Nat) : Int) := ⟨_, rfl⟩
  have hcl : cs.length = n := by rw [hcs]; simp
  have hadd : ∀ j, (⟨g2, off2, none⟩ : Addr).add j = ⟨g2, off2 + j, none⟩ := by intro j; unfold Addr.add; split <;> simp_all
  have hrun := run_copy_row (P := Tryd.prog) w 22 22 o.type 5 g off dLen dCap ⟨g2, off2, none⟩ sLen sCap (cells8 zs) t cs Tryd.underlying22 (by kernel_rfl) hz (by rw [hcl]; exact hn)
    (fun j v hv => by
      have hj : j < n := by have := (List.getElem?_eq_some_iff.1 hv).1; omega
      rw [hadd, hsrc j hj]
      rw [hcs] at hv; simp [hj] at hv; rw [← hv]) (by rw [hcl, cells8_size]; exact hfit) (fun v hv => by rw [hcs] at hv; obtain ⟨k, _, rfl⟩ := List.mem_map.1 hv; rfl)
  have hcells : (cells8 zs).toList.take off ++ cs ++ (cells8 zs).toList.drop (off + cs.length) = (cells8 (zs.take off ++ (List.range n).map fs ++ zs.drop (off + n))).toList := by
    rw [hcl, hcs]
    simp only [cells8]
    rw [List.map_append, List.map_append, List.map_take, List.map_drop, List.map_map]
    rfl
  obtain ⟨Z, hZ⟩ : ∃ Z, Z = zs.take off ++ (List.range n).map fs ++ zs.drop (off + n) := ⟨_, rfl⟩
  rw [hcells, ← hZ, Array.toArray_toList, hcl] at hrun
  have g1 : Z.length = zs.length := by rw [hZ]; simp; omega
  have g2' : ∀ p, Z.getD p 0 = layN zs off n fs p := fun p => by rw [hZ]; exact splice_getD zs off n fs hfit p
  have hfin := h (w.setRow g (cells8 Z)) Z (hz.setRow _) g1 g2' (grown_setRow _ _ _)
  clear h g1 g2' hZ hcells hcl hcs hsrc
  unfold Oper.wp
  simp [execOp, ho, resolve, invoke, builtin, hd, hs, hrun, Result.andThen]
  exact hfin
/-! arrays held against each other -/
theorem eq_items8 (d : Nat) (xs ys : List Nat) (w : World) : ∀ is : List Nat, (∀ i ∈ is, i < xs.length ∧ i < ys.length) → (Op.eqItems (d + 1) 5 1 (cells8 xs) (cells8 ys) is).run Tryd.prog w = .ok (is.all fun i => decide (xs.getD i 0 = ys.getD i 0)) w
  | [], _ => by simp [Op.eqItems]
  | i :: is, h => by
    obtain ⟨h1, h2⟩ := h i (by simp)
    have ih := eq_items8 d xs ys w is (fun j hj => h j (by simp [hj]))
    have p1 : (part 5 (cells8 xs) (i * 1)).run Tryd.prog w = .ok (.int .u8 ((xs.getD i 0 : Nat) : Int)) w := run_part_plain w (by kernel_rfl) (by rw [Nat.mul_one]; exact cells8_getD h1)
    have p2 : (part 5 (cells8 ys) (i * 1)).run Tryd.prog w = .ok (.int .u8 ((ys.getD i 0 : Nat) : Int)) w := run_part_plain w (by kernel_rfl) (by rw [Nat.mul_one]; exact cells8_getD h2)
    have p3 := run_equalIn_int (P := Tryd.prog) w d 5 .u8 .u8 ((xs.getD i 0 : Nat) : Int) ((ys.getD i 0 : Nat) : Int) Tryd.underlying5
    simp only [Op.eqItems, Sem.run_bind, p1, p2, p3, Result.andThen_ok]
    obtain ⟨X, hX⟩ : ∃ X, X = xs.getD i 0 := ⟨_, rfl⟩
    obtain ⟨Y, hY⟩ : ∃ Y, Y = ys.getD i 0 := ⟨_, rfl⟩
    rw [List.all_cons, ← hX, ← hY]
    clear p1 p2 p3 hX hY
    by_cases e : X = Y
    · subst e
      simp [ih]
    · have e' : ((X : Int) == (Y : Int)) = false := by simp; omega
      rw [e', decide_eq_false e]
      simp
theorem eq_arr8 (d : Nat) (xs ys : List Nat) (hx : xs.length = 64) (hy : ys.length = 64) (w : World) : (Op.equalIn (d + 2) 70 (.agg (cells8 xs)) (.agg (cells8 ys))).run Tryd.prog w = .ok ((List.range 64).all fun i => decide (xs.getD i 0 = ys.getD i 0)) w := by
  obtain ⟨i0, hi⟩ : ∃ i, Tryd.prog.info? 5 = some i := by
    cases h : Tryd.prog.info? 5 with
    | none => have := Tryd.info8; rw [h] at this; cases this
    | some i => exact ⟨i, rfl⟩
  rw [run_equalIn_array w (d + 1) (cells8 xs) (cells8 ys) Tryd.underlying70 hi]
  rw [show Tryd.prog.cellsOf 5 = 1 by kernel_rfl]
  exact eq_items8 d xs ys w _ (fun i hi => by have := List.mem_range.1 hi; omega)
end Go.Proofs.YtlobnmcjnaibaaaDoorR
